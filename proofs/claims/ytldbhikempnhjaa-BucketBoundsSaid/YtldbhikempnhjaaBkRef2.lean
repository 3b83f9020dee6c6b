/- Take, New of the document's own bucket; a bucket as the document's. -/
import Derived.Test.YtldbhikempnhjaaBkRef
namespace Go.Proofs.Ytldbhikempnhjaa
open Go.RowKit
set_option linter.unusedVariables false

set_option maxHeartbeats 1600000 in
theorem rtake_no (s l k a n L T : Int) (w : World) (hr : rB s L k = false)
    (hE : ∀ w, Calls Try.prog 18 #[bk s l k a, .int .i64 n] w fun e w' => e = .returned (bk s L k T) ∧ Below w.heap.size w w') :
    Calls Try.prog 14 #[bk s l k a, .int .i64 n] w fun e w' => e = .returned (.tuple #[bk s (L) k T, .bool false]) ∧ Below w.heap.size w w' := by
  have HE := Lib.hid hE
  clear hE
  have T0 := two_new w (cs4 s l k a) (cs4 0 0 0 0) 31 31
  go_enter Try.func14, Try.ntmps14
  go_wp2_with fail
  refine (HE.out _).mono ?_
  rintro e w1 ⟨rfl, h1⟩
  have X0 := Lib.hid (Has.below T0.1 h1 T0.1.lt)
  have X1 := Lib.hid (Has.below T0.2.1 h1 T0.2.1.lt)
  have XB := Lib.hid (Below.step T0.2.2 h1 (Nat.le_refl _))
  clear T0 h1
  obtain ⟨⟨c0, c1, c2, c3⟩, g0, g1, g2, g3⟩ := X0.out.fours
  go_upto_region 2 with fail
  have X5 := Lib.hid (X0.out.set4 s L k T)
  have X6 := Lib.hid (X1.out.beside4 (g := w.heap.size) (by omega) s L k T)
  have XD := Lib.hid (below_set4 XB.out (Nat.le_refl _) s L k T)
  clear c0 c1 c2 c3 g0 g1 g2 g3 X0 X1 XB
  generalize (World.setCell _ ⟨w.heap.size, 3, none⟩ (.int .i64 T)) = w3 at *
  obtain ⟨⟨c0, c1, c2, c3⟩, g0, g1, g2, g3⟩ := X5.out.fours
  go_wp2_with fail
  refine (rright_any s L k T _).mono ?_
  rintro e w4 ⟨rfl, h4⟩
  rw [hr]
  have X7 := Lib.hid (X5.out.below h4 X5.out.lt)
  have X8 := Lib.hid (X6.out.below h4 X6.out.lt)
  have XE := Lib.hid (Below.step XD.out h4 (Nat.le_refl _))
  clear c0 c1 c2 c3 g0 g1 g2 g3 h4 X5 X6 XD
  obtain ⟨⟨c0, c1, c2, c3⟩, g0, g1, g2, g3⟩ := X7.out.fours
  obtain ⟨⟨d0, d1, d2, d3⟩, k0, k1, k2, k3⟩ := X8.out.fours
  go_wp2
  have Y := (X8.out.set4 s L k T).four
  refine bodyPost_ret (v := .tuple #[bk s (L) k T, .bool false]) (by simp [results, Try.results14, go_sem, Y.1, Y.2.1, Y.2.2.1, Y.2.2.2]) rfl ?_
  exact ⟨rfl, below_set4 XE.out (by omega) _ _ _ _⟩
set_option maxHeartbeats 1600000 in
theorem rtake_none (s l k a n T : Int) (w : World) (hr : rB s 0 k = true)
    (hE : ∀ w, Calls Try.prog 18 #[bk s l k a, .int .i64 n] w fun e w' => e = .returned (bk s 0 k T) ∧ Below w.heap.size w w') :
    Calls Try.prog 14 #[bk s l k a, .int .i64 n] w fun e w' => e = .returned (.tuple #[bk s (0) k T, .bool false]) ∧ Below w.heap.size w w' := by
  have HE := Lib.hid hE
  clear hE
  have T0 := two_new w (cs4 s l k a) (cs4 0 0 0 0) 31 31
  go_enter Try.func14, Try.ntmps14
  go_wp2_with fail
  refine (HE.out _).mono ?_
  rintro e w1 ⟨rfl, h1⟩
  have X0 := Lib.hid (Has.below T0.1 h1 T0.1.lt)
  have X1 := Lib.hid (Has.below T0.2.1 h1 T0.2.1.lt)
  have XB := Lib.hid (Below.step T0.2.2 h1 (Nat.le_refl _))
  clear T0 h1
  obtain ⟨⟨c0, c1, c2, c3⟩, g0, g1, g2, g3⟩ := X0.out.fours
  go_upto_region 2 with fail
  have X5 := Lib.hid (X0.out.set4 s 0 k T)
  have X6 := Lib.hid (X1.out.beside4 (g := w.heap.size) (by omega) s 0 k T)
  have XD := Lib.hid (below_set4 XB.out (Nat.le_refl _) s 0 k T)
  clear c0 c1 c2 c3 g0 g1 g2 g3 X0 X1 XB
  generalize (World.setCell _ ⟨w.heap.size, 3, none⟩ (.int .i64 T)) = w3 at *
  obtain ⟨⟨c0, c1, c2, c3⟩, g0, g1, g2, g3⟩ := X5.out.fours
  go_wp2_with fail
  refine (rright_any s 0 k T _).mono ?_
  rintro e w4 ⟨rfl, h4⟩
  rw [hr]
  have X7 := Lib.hid (X5.out.below h4 X5.out.lt)
  have X8 := Lib.hid (X6.out.below h4 X6.out.lt)
  have XE := Lib.hid (Below.step XD.out h4 (Nat.le_refl _))
  clear c0 c1 c2 c3 g0 g1 g2 g3 h4 X5 X6 XD
  obtain ⟨⟨c0, c1, c2, c3⟩, g0, g1, g2, g3⟩ := X7.out.fours
  obtain ⟨⟨d0, d1, d2, d3⟩, k0, k1, k2, k3⟩ := X8.out.fours
  go_wp2
  have Y := (X8.out.set4 s 0 k T).four
  refine bodyPost_ret (v := .tuple #[bk s (0) k T, .bool false]) (by simp [results, Try.results14, go_sem, Y.1, Y.2.1, Y.2.2.1, Y.2.2.2]) rfl ?_
  exact ⟨rfl, below_set4 XE.out (by omega) _ _ _ _⟩
set_option maxHeartbeats 1600000 in
theorem rtake_one (s l k a n L T : Int) (w : World) (hr : rB s L k = true) (hL0 : 1 ≤ L) (hL1 : L ≤ 1000000) (hne : (L == 0) = false)
    (hE : ∀ w, Calls Try.prog 18 #[bk s l k a, .int .i64 n] w fun e w' => e = .returned (bk s L k T) ∧ Below w.heap.size w w') :
    Calls Try.prog 14 #[bk s l k a, .int .i64 n] w fun e w' => e = .returned (.tuple #[bk s (L - 1) k T, .bool true]) ∧ Below w.heap.size w w' := by
  have HE := Lib.hid hE
  clear hE
  have T0 := two_new w (cs4 s l k a) (cs4 0 0 0 0) 31 31
  go_enter Try.func14, Try.ntmps14
  go_wp2_with fail
  refine (HE.out _).mono ?_
  rintro e w1 ⟨rfl, h1⟩
  have X0 := Lib.hid (Has.below T0.1 h1 T0.1.lt)
  have X1 := Lib.hid (Has.below T0.2.1 h1 T0.2.1.lt)
  have XB := Lib.hid (Below.step T0.2.2 h1 (Nat.le_refl _))
  clear T0 h1
  obtain ⟨⟨c0, c1, c2, c3⟩, g0, g1, g2, g3⟩ := X0.out.fours
  go_upto_region 2 with fail
  have X5 := Lib.hid (X0.out.set4 s L k T)
  have X6 := Lib.hid (X1.out.beside4 (g := w.heap.size) (by omega) s L k T)
  have XD := Lib.hid (below_set4 XB.out (Nat.le_refl _) s L k T)
  clear c0 c1 c2 c3 g0 g1 g2 g3 X0 X1 XB
  generalize (World.setCell _ ⟨w.heap.size, 3, none⟩ (.int .i64 T)) = w3 at *
  obtain ⟨⟨c0, c1, c2, c3⟩, g0, g1, g2, g3⟩ := X5.out.fours
  go_wp2_with fail
  refine (rright_any s L k T _).mono ?_
  rintro e w4 ⟨rfl, h4⟩
  rw [hr]
  have X7 := Lib.hid (X5.out.below h4 X5.out.lt)
  have X8 := Lib.hid (X6.out.below h4 X6.out.lt)
  have XE := Lib.hid (Below.step XD.out h4 (Nat.le_refl _))
  clear c0 c1 c2 c3 g0 g1 g2 g3 h4 X5 X6 XD
  obtain ⟨⟨c0, c1, c2, c3⟩, g0, g1, g2, g3⟩ := X7.out.fours
  obtain ⟨⟨d0, d1, d2, d3⟩, k0, k1, k2, k3⟩ := X8.out.fours
  go_wp2
  have Y := ((X8.out.set_other ⟨w.heap.size, 1, none⟩ (.int .i64 (L - 1)) (by simp)).set4 s (L - 1) k T).four
  refine bodyPost_ret (v := .tuple #[bk s (L - 1) k T, .bool true]) (by simp [results, Try.results14, go_sem, Y.1, Y.2.1, Y.2.2.1, Y.2.2.2]) rfl ?_
  exact ⟨rfl, below_set4 (XE.out.setCell (p := ⟨w.heap.size, 1, none⟩) (Nat.le_refl _) _) (by omega) _ _ _ _⟩
theorem fL_in {s l k : Int} (a n : Int) (hr : rB s l k = true) : 0 ≤ fL s l k a n ∧ fL s l k a n ≤ s ∧ rB s (fL s l k a n) k = true := by
  obtain ⟨hs0, hs1, hl0, hls, hk1, hk2⟩ := rB_yes hr
  have key : 0 ≤ fL s l k a n ∧ fL s l k a n ≤ s := by
    by_cases hl : l = s
    · rw [(f_full hr hl).1]; omega
    · by_cases han : n < a
      · rw [(f_back hr hl han).1]; omega
      · rw [(f_on hr hl han).1]
        obtain ⟨h0, _, _⟩ := div_mul_le (n - a) k (by omega) hk1
        split <;> omega
  exact ⟨key.1, key.2, decide_eq_true ⟨hs0, hs1, key.1, key.2, hk1, hk2⟩⟩
theorem t_no {s l k a n : Int} (hr : rB s l k = false) : tK s l k a n = false ∧ tL s l k a n = l := by
  have h1 : tK s l k a n = false := by unfold tK; simp [hr]
  exact ⟨h1, by unfold tL; rw [h1]; simp [(f_no hr).1]⟩
theorem t_none {s l k a n : Int} (h : fL s l k a n = 0) : tK s l k a n = false ∧ tL s l k a n = 0 := by
  have h1 : tK s l k a n = false := by unfold tK; simp [h]
  exact ⟨h1, by unfold tL; rw [h1]; simp [h]⟩
theorem t_one {s l k a n : Int} (hr : rB s l k = true) (h : fL s l k a n ≠ 0) : tK s l k a n = true ∧ tL s l k a n = fL s l k a n - 1 := by
  have h1 : tK s l k a n = true := by unfold tK; simp [h, hr]
  exact ⟨h1, by unfold tL; rw [h1]; simp⟩
theorem take_any (s l k a n : Int) (w : World) (ha : I64 a) (hn : I64 n) :
    Calls Try.prog 12 #[bk s l k a, .int .i64 n] w fun e w' => e = .returned (.tuple #[bk s (tL s l k a n) k (fA s l k a n), .bool (tK s l k a n)]) ∧ Below w.heap.size w w' := by
  cases hr : rB s l k with
  | false => rw [(t_no hr).1, (t_no hr).2, (f_no hr).2]; exact take_no s l k a n w hr
  | true =>
    obtain ⟨h0, h1, _⟩ := fL_in a n hr
    obtain ⟨hs0, hs1, hl0, hls, hk1, hk2⟩ := rB_yes hr
    have HF := fun w => fill_any s l k a n w ha hn
    by_cases h : fL s l k a n = 0
    · rw [(t_none h).1, (t_none h).2]
      rw [h] at HF
      exact take_none s l k a n _ w hr HF
    · rw [(t_one hr h).1, (t_one hr h).2]
      exact take_one s l k a n _ _ w hr (by omega) (by omega) HF
theorem rtake_any (s l k a n : Int) (w : World) (ha : I64 a) (hn : I64 n) :
    Calls Try.prog 14 #[bk s l k a, .int .i64 n] w fun e w' => e = .returned (.tuple #[bk s (tL s l k a n) k (fA s l k a n), .bool (tK s l k a n)]) ∧ Below w.heap.size w w' := by
  have HF := fun w => rfill_any s l k a n w ha hn
  cases hr : rB s l k with
  | false => rw [(t_no hr).1, (t_no hr).2]; rw [(f_no hr).1] at HF; exact rtake_no s l k a n l _ w hr HF
  | true =>
    obtain ⟨h0, h1, hr'⟩ := fL_in a n hr
    obtain ⟨hs0, hs1, hl0, hls, hk1, hk2⟩ := rB_yes hr
    by_cases h : fL s l k a n = 0
    · rw [(t_none h).1, (t_none h).2]
      rw [h] at HF hr'
      exact rtake_none s l k a n _ w hr' HF
    · rw [(t_one hr h).1, (t_one hr h).2]
      exact rtake_one s l k a n _ _ w hr' (by omega) (by omega) (by simpa using h) HF
/-- What New tells: the size (how many are left), the time for one, the error. -/
def nS (s k : Int) : Int := if rB s s k = true then s else 0
def nK (s k : Int) : Int := if rB s s k = true then k else 0
def nE (s k : Int) : Int := if rB s s k = true then 0 else 1
theorem new_any (s k : Int) (w : World) :
    Calls Try.prog 10 #[.int .i64 s, .int .i64 k] w fun e w' => e = .returned (.tuple #[bk (nS s k) (nS s k) (nK s k) 0, .int .i64 (nE s k)]) ∧ Below w.heap.size w w' := by
  unfold nS nK nE
  cases hr : rB s s k with
  | true => exact new_yes s k w hr
  | false => exact new_no s k w hr
set_option maxHeartbeats 400000 in
theorem rnew_yes (s k : Int) (w : World) (hr : rB s s k = true) :
    Calls Try.prog 11 #[.int .i64 s, .int .i64 k] w fun e w' => e = .returned (.tuple #[bk s s k 0, .int .i64 0]) ∧ Below w.heap.size w w' := by
  have T0 := two_new w (cs4 0 0 0 0) (cs4 s s k 0) 31 31
  go_enter Try.func11, Try.ntmps11
  go_wp2_with fail
  refine (rright_any s s k 0 _).mono ?_
  rintro e w1 ⟨rfl, h1⟩
  rw [hr]
  have X0 := Lib.hid (Has.below T0.1 h1 T0.1.lt)
  have X1 := Lib.hid (Has.below T0.2.1 h1 T0.2.1.lt)
  have XB := Lib.hid (Below.step T0.2.2 h1 (Nat.le_refl _))
  clear T0 h1
  obtain ⟨⟨c0, c1, c2, c3⟩, g0, g1, g2, g3⟩ := X0.out.fours
  obtain ⟨⟨d0, d1, d2, d3⟩, k0, k1, k2, k3⟩ := X1.out.fours
  go_wp2
  have Y := (X0.out.set4 s s k 0).four
  refine bodyPost_ret (v := .tuple #[bk s s k 0, .int .i64 0]) (by simp [results, Try.results11, go_sem, Y.1, Y.2.1, Y.2.2.1, Y.2.2.2]) rfl ?_
  exact ⟨rfl, below_set4 XB.out (by omega) _ _ _ _⟩
set_option maxHeartbeats 400000 in
theorem rnew_no (s k : Int) (w : World) (hr : rB s s k = false) :
    Calls Try.prog 11 #[.int .i64 s, .int .i64 k] w fun e w' => e = .returned (.tuple #[bk 0 0 0 0, .int .i64 1]) ∧ Below w.heap.size w w' := by
  have T0 := two_new w (cs4 0 0 0 0) (cs4 s s k 0) 31 31
  go_enter Try.func11, Try.ntmps11
  go_wp2_with fail
  refine (rright_any s s k 0 _).mono ?_
  rintro e w1 ⟨rfl, h1⟩
  rw [hr]
  have X0 := Lib.hid (Has.below T0.1 h1 T0.1.lt)
  have X1 := Lib.hid (Has.below T0.2.1 h1 T0.2.1.lt)
  have XB := Lib.hid (Below.step T0.2.2 h1 (Nat.le_refl _))
  clear T0 h1
  obtain ⟨⟨c0, c1, c2, c3⟩, g0, g1, g2, g3⟩ := X0.out.fours
  go_wp2
  have Y := (X0.out.set4 0 0 0 0).four
  refine bodyPost_ret (v := .tuple #[bk 0 0 0 0, .int .i64 1]) (by simp [results, Try.results11, go_sem, Y.1, Y.2.1, Y.2.2.1, Y.2.2.2]) rfl ?_
  exact ⟨rfl, below_set4 XB.out (by omega) _ _ _ _⟩
theorem rnew_any (s k : Int) (w : World) :
    Calls Try.prog 11 #[.int .i64 s, .int .i64 k] w fun e w' => e = .returned (.tuple #[bk (nS s k) (nS s k) (nK s k) 0, .int .i64 (nE s k)]) ∧ Below w.heap.size w w' := by
  unfold nS nK nE
  cases hr : rB s s k with
  | true => exact rnew_yes s k w hr
  | false => exact rnew_no s k w hr
set_option maxHeartbeats 400000 in
theorem ref_any (s l k a : Int) (w : World) :
    Calls Try.prog 13 #[bk s l k a] w fun e w' => e = .returned (bk s l k a) ∧ Below w.heap.size w w' := by
  go_enter Try.func13, Try.ntmps13
  go_wp2
  refine bodyPost_ret (v := bk s l k a) (by simp [results, Try.results13, go_sem]) rfl ?_
  exact ⟨rfl, ((Below.refl _ _).alloc (Nat.le_refl _) _).alloc (by simp) _⟩
abbrev sm (s l k a : Int) (o : Bool) : Value := .agg #[.int .i64 s, .int .i64 l, .int .i64 k, .int .i64 a, .bool o]
set_option maxHeartbeats 800000 in
theorem some_no (s l k a : Int) (w : World) :
    Calls Try.prog 9 #[sm s l k a false] w fun e w' => e = .returned (bk s l k a) ∧ Below w.heap.size w w' := by
  go_enter Try.func9, Try.ntmps9
  go_wp2
  refine bodyPost_ret (v := bk s l k a) (by simp [results, Try.results9, go_sem]) rfl ?_
  exact ⟨rfl, (((Below.refl _ _).alloc (Nat.le_refl _) _).alloc (by simp) _).alloc (by simp; omega) _⟩
set_option maxHeartbeats 1600000 in
theorem some_yes_ (s l k a S L K A : Int) (w : World) (hS : (IntKind.u64.wrap s).tmod 6 = S) (hS0 : 0 ≤ S) (hS1 : S ≤ 5) (hL : (IntKind.u64.wrap l).tmod (S + 1) = L) (hL0 : 0 ≤ L) (hL1 : L ≤ S) (hK : (IntKind.u64.wrap k).tmod 9 = K) (hK0 : 0 ≤ K) (hK1 : K ≤ 8) (hA : a.tmod 100 = A) :
    Calls Try.prog 9 #[sm s l k a true] w fun e w' => e = .returned (bk S L (1 + K) A) ∧ Below w.heap.size w w' := by
  go_enter Try.func9, Try.ntmps9
  go_wp2
  refine bodyPost_ret (v := bk S L (1 + K) A) (by simp [results, Try.results9, go_sem]) rfl ?_
  exact ⟨rfl, (((Below.refl _ _).alloc (Nat.le_refl _) _).alloc (by simp) _).alloc (by simp; omega) _⟩
/-- What comes of any bucket that is made small. -/
def Small4 (s l k a : Int) : Prop := 0 ≤ s ∧ s ≤ 5 ∧ 0 ≤ l ∧ l ≤ s ∧ 1 ≤ k ∧ k ≤ 9 ∧ -99 ≤ a ∧ a ≤ 99
theorem u64_pos (n : Int) : 0 ≤ IntKind.u64.wrap n := by rw [IntKind.wrap_u64]; omega
theorem tmod_in (a m : Int) (hm : 1 ≤ m) : -m < a.tmod m ∧ a.tmod m < m := by
  rcases Int.le_total 0 a with h | h
  · rw [Int.tmod_eq_emod_of_nonneg h]
    have := Int.emod_nonneg a (b := m) (by omega)
    have := Int.emod_lt_of_pos a (b := m) (by omega)
    omega
  · have e : a.tmod m = -((-a).tmod m) := by rw [Int.neg_tmod, Int.neg_neg]
    rw [e, Int.tmod_eq_emod_of_nonneg (by omega)]
    have := Int.emod_nonneg (-a) (b := m) (by omega)
    have := Int.emod_lt_of_pos (-a) (b := m) (by omega)
    omega
theorem some_yes (s l k a : Int) : ∃ s' l' k' a' : Int, Small4 s' l' k' a' ∧ ∀ w : World,
    Calls Try.prog 9 #[sm s l k a true] w fun e w' => e = .returned (bk s' l' k' a') ∧ Below w.heap.size w w' := by
  have h1 : ∀ n : Int, 0 ≤ n → ∀ m : Int, 1 ≤ m → 0 ≤ n.tmod m ∧ n.tmod m < m := fun n hn m hm => by
    rw [Int.tmod_eq_emod_of_nonneg hn]
    exact ⟨Int.emod_nonneg _ (by omega), Int.emod_lt_of_pos _ (by omega)⟩
  have hS := h1 _ (u64_pos s) 6 (by omega)
  have hL := h1 _ (u64_pos l) ((IntKind.u64.wrap s).tmod 6 + 1) (by omega)
  have hK := h1 _ (u64_pos k) 9 (by omega)
  have hA := tmod_in a 100 (by omega)
  refine ⟨_, _, 1 + (IntKind.u64.wrap k).tmod 9, a.tmod 100, ⟨hS.1, by omega, hL.1, by omega, by omega, by omega, by omega, by omega⟩, fun w => ?_⟩
  exact some_yes_ s l k a _ _ _ _ w rfl hS.1 (by omega) rfl hL.1 (by omega) rfl hK.1 (by omega) rfl
/-- A bucket that may be handed on: its time is one of the machine's. -/
theorem some_any (s l k a : Int) (o : Bool) (ha : I64 a) : ∃ s' l' k' a' : Int, I64 a' ∧ ∀ w : World,
    Calls Try.prog 9 #[sm s l k a o] w fun e w' => e = .returned (bk s' l' k' a') ∧ Below w.heap.size w w' := by
  cases o with
  | false => exact ⟨s, l, k, a, ha, some_no s l k a⟩
  | true =>
    obtain ⟨s', l', k', a', h, hc⟩ := some_yes s l k a
    obtain ⟨_, _, _, _, _, _, _, _⟩ := h
    exact ⟨s', l', k', a', ⟨by omega, by omega⟩, hc⟩
end Go.Proofs.Ytldbhikempnhjaa
