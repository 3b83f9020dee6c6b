/- Contracts of package bucket. -/
import Derived.Test.YtldbhikempnhjaaBkDef
namespace Go.Proofs.Ytldbhikempnhjaa
open Go.RowKit
set_option linter.unusedVariables false

set_option maxHeartbeats 400000 in
theorem bounded_any (s l k a : Int) (w : World) :
    Calls Try.prog 19 #[bk s l k a] w fun e w' => e = .returned (bk (bS s) (bL s l) (bK k) a) ∧ Below w.heap.size w w' := by
  go_enter Try.func19, Try.ntmps19
  go_wp2
  refine bodyPost_ret (v := bk (bS s) (bL s l) (bK k) a) (by simp [results, Try.results19, go_sem]; exact ⟨rfl, rfl, rfl⟩) rfl ?_
  exact ⟨rfl, ((Below.refl _ _).alloc (Nat.le_refl _) _).alloc (by simp) _⟩
set_option maxHeartbeats 400000 in
theorem right_any (s l k a : Int) (w : World) :
    Calls Try.prog 15 #[bk s l k a] w fun e w' => e = .returned (.bool (rB s l k)) ∧ Below w.heap.size w w' := by
  go_enter Try.func15, Try.ntmps15
  have H0 := has_new w (cs4 s l k a) 23
  have HB := Lib.hid ((Below.refl w.heap.size w).alloc (Nat.le_refl _) (.cells (cs4 s l k a) 23))
  go_wp2
  generalize w.alloc (.cells (cs4 s l k a) 23) = w0 at *
  have C0 := Lib.hid H0
  clear H0
  go_region_held3 (fun w' => w'.cell? ⟨w.heap.size, 0, none⟩ = some (.int .i64 s) ∧ w'.cell? ⟨w.heap.size, 1, none⟩ = some (.int .i64 l) ∧ w'.cell? ⟨w.heap.size, 2, none⟩ = some (.int .i64 k) ∧ w'.cell? ⟨w.heap.size, 3, none⟩ = some (.int .i64 a))
    (first | exact C1.out.four | exact C0.out.four)
    (first | (go_at_call 19; refine (bounded_any _ _ _ _ _).mono ?_; rintro e w1 ⟨rfl, h1⟩; have C1 := Lib.hid (C0.out.drew.below h1 C0.out.lt); have H1 := Lib.hid (Below.step HB.out.drew h1 (Nat.le_refl _)); clear h1))
  rw [rB_eq]
  go_wp2
  go_ret
  exact ⟨rfl, H1.out⟩
theorem sub_u64 (n a : Int) (h0 : a ≤ n) (h1 : n - a < 18446744073709551616) : IntKind.u64.wrap (IntKind.u64.wrap n - IntKind.u64.wrap a) = n - a := by
  rw [IntKind.wrap_u64, IntKind.wrap_u64, IntKind.wrap_u64]
  omega
theorem tdiv_pos (d k : Int) (h0 : 0 ≤ d) (hk : 1 ≤ k) : d.tdiv k = d / k := Int.tdiv_eq_ediv_of_nonneg h0
theorem wrap_back (a M : Int) (h0 : -9223372036854775808 ≤ a + M) (h1 : a + M ≤ 9223372036854775807) : wrap64 (a + wrap64 M) = a + M := by
  unfold wrap64; omega
set_option maxHeartbeats 400000 in
theorem earn_few (s l k a n D Q Z : Int) (w : World) (hs : s ≤ 1000000) (hl : 0 ≤ l) (hls : l < s) (hk1 : 1 ≤ k) (hk2 : k ≤ 4611686018427387904) (ha : -9223372036854775808 ≤ a) (han : a ≤ n) (hn : n ≤ 9223372036854775807)
    (hD : IntKind.u64.wrap (IntKind.u64.wrap n - IntKind.u64.wrap a) = D) (hQ : D.tdiv k = Q) (hQ0 : 0 ≤ Q) (hq : Q < s - l) (hZ : wrap64 (a + wrap64 (Q * k)) = Z) :
    Calls Try.prog 20 #[bk s l k a, .int .i64 n] w fun e w' => e = .returned (bk s (l + Q) k Z) ∧ Below w.heap.size w w' := by
  have hqq : ¬ s - l ≤ Q := by omega
  go_enter Try.func20, Try.ntmps20
  go_wp2
  refine bodyPost_ret (v := bk s (l + Q) k Z) (by simp [results, Try.results20, go_sem]) rfl ?_
  exact ⟨rfl, ((Below.refl _ _).alloc (Nat.le_refl _) _).alloc (by simp) _⟩
set_option maxHeartbeats 400000 in
theorem earn_many (s l k a n D Q : Int) (w : World) (hs : s ≤ 1000000) (hl : 0 ≤ l) (hls : l < s) (hk1 : 1 ≤ k) (hk2 : k ≤ 4611686018427387904) (ha : -9223372036854775808 ≤ a) (han : a ≤ n) (hn : n ≤ 9223372036854775807)
    (hD : IntKind.u64.wrap (IntKind.u64.wrap n - IntKind.u64.wrap a) = D) (hQ : D.tdiv k = Q) (hQ0 : 0 ≤ Q) (hQ1 : Q ≤ 18446744073709551615) (hq : s - l ≤ Q) :
    Calls Try.prog 20 #[bk s l k a, .int .i64 n] w fun e w' => e = .returned (bk s s k n) ∧ Below w.heap.size w w' := by
  go_enter Try.func20, Try.ntmps20
  go_wp2
  refine bodyPost_ret (v := bk s s k n) (by simp [results, Try.results20, go_sem]) rfl ?_
  exact ⟨rfl, ((Below.refl _ _).alloc (Nat.le_refl _) _).alloc (by simp) _⟩
theorem earn_any (s l k a n : Int) (w : World) (hs : s ≤ 1000000) (hl : 0 ≤ l) (hls : l < s) (hk1 : 1 ≤ k) (hk2 : k ≤ 4611686018427387904) (ha : -9223372036854775808 ≤ a) (han : a ≤ n) (hn : n ≤ 9223372036854775807) :
    Calls Try.prog 20 #[bk s l k a, .int .i64 n] w fun e w' => e = .returned (bk s (if s - l ≤ (n - a) / k then s else l + (n - a) / k) k (if s - l ≤ (n - a) / k then n else a + (n - a) / k * k)) ∧ Below w.heap.size w w' := by
  obtain ⟨h0, h1, h2⟩ := div_mul_le (n - a) k (by omega) hk1
  have h3 : (n - a) / k ≤ n - a := Int.ediv_le_self _ (by omega)
  by_cases hq : s - l ≤ (n - a) / k
  · rw [if_pos hq, if_pos hq]
    exact earn_many s l k a n (n - a) _ w hs hl hls hk1 hk2 ha han hn (sub_u64 n a han (by omega)) (tdiv_pos _ _ (by omega) hk1) h0 (by omega) hq
  · rw [if_neg hq, if_neg hq]
    exact earn_few s l k a n (n - a) _ _ w hs hl hls hk1 hk2 ha han hn (sub_u64 n a han (by omega)) (tdiv_pos _ _ (by omega) hk1) h0 (by omega) (wrap_back a _ (by omega) (by omega))

abbrev I64 (n : Int) : Prop := -9223372036854775808 ≤ n ∧ n ≤ 9223372036854775807
theorem f_no {s l k a n : Int} (h : rB s l k = false) : fL s l k a n = l ∧ fA s l k a n = a := by unfold fL fA; simp [h]
theorem f_full {s l k a n : Int} (h : rB s l k = true) (hl : l = s) : fL s l k a n = l ∧ fA s l k a n = max a n := by
  subst hl; unfold fL fA; simp [h]
theorem f_back {s l k a n : Int} (h : rB s l k = true) (hl : ¬ l = s) (hn : n < a) : fL s l k a n = l ∧ fA s l k a n = a := by unfold fL fA; simp [h, hl, hn]
theorem f_on {s l k a n : Int} (h : rB s l k = true) (hl : ¬ l = s) (hn : ¬ n < a) : fL s l k a n = (if s - l ≤ (n - a) / k then s else l + (n - a) / k) ∧ fA s l k a n = (if s - l ≤ (n - a) / k then n else a + (n - a) / k * k) := by unfold fL fA; simp [h, hl, hn]
set_option maxHeartbeats 800000 in
theorem fill_no (s l k a n : Int) (w : World) (ha : I64 a) (hn : I64 n) (hr : rB s l k = false) :
    Calls Try.prog 17 #[bk s l k a, .int .i64 n] w fun e w' => e = .returned (bk s (l) k (a)) ∧ Below w.heap.size w w' := by
  have T0 := two_new w (cs4 s l k a) (cs4 0 0 0 0) 23 23
  go_enter Try.func17, Try.ntmps17
  go_wp2_with fail
  refine (right_any s l k a _).mono ?_
  rintro e w1 ⟨rfl, h1⟩
  rw [hr]
  have X0 := Lib.hid (Has.below T0.1 h1 T0.1.lt)
  have X1 := Lib.hid (Has.below T0.2.1 h1 T0.2.1.lt)
  have XB := Lib.hid (Below.step T0.2.2 h1 (Nat.le_refl _))
  clear T0 h1
  obtain ⟨⟨c0, c1, c2, c3⟩, g0, g1, g2, g3⟩ := X0.out.fours
  obtain ⟨⟨d0, d1, d2, d3⟩, k0, k1, k2, k3⟩ := X1.out.fours
  go_wp2
  have Y := (X1.out.set4 s (l) k (a)).four
  refine bodyPost_ret (v := bk s (l) k (a)) (by simp [results, Try.results17, go_sem, Y.1, Y.2.1, Y.2.2.1, Y.2.2.2]) rfl ?_
  exact ⟨rfl, below_set4 XB.out (by omega) _ _ _ _⟩
set_option maxHeartbeats 800000 in
theorem fill_full (s k a n : Int) (w : World) (ha : I64 a) (hn : I64 n) (hr : rB s s k = true) :
    Calls Try.prog 17 #[bk s s k a, .int .i64 n] w fun e w' => e = .returned (bk s (s) k (max a n)) ∧ Below w.heap.size w w' := by
  have T0 := two_new w (cs4 s s k a) (cs4 0 0 0 0) 23 23
  go_enter Try.func17, Try.ntmps17
  go_wp2_with fail
  refine (right_any s s k a _).mono ?_
  rintro e w1 ⟨rfl, h1⟩
  rw [hr]
  have X0 := Lib.hid (Has.below T0.1 h1 T0.1.lt)
  have X1 := Lib.hid (Has.below T0.2.1 h1 T0.2.1.lt)
  have XB := Lib.hid (Below.step T0.2.2 h1 (Nat.le_refl _))
  clear T0 h1
  obtain ⟨⟨c0, c1, c2, c3⟩, g0, g1, g2, g3⟩ := X0.out.fours
  obtain ⟨⟨d0, d1, d2, d3⟩, k0, k1, k2, k3⟩ := X1.out.fours
  go_wp2
  have Y := ((X1.out.set_other ⟨w.heap.size, 3, none⟩ (.int .i64 (max a n)) (by simp)).set4 s (s) k (max a n)).four
  refine bodyPost_ret (v := bk s (s) k (max a n)) (by simp [results, Try.results17, go_sem, Y.1, Y.2.1, Y.2.2.1, Y.2.2.2]) rfl ?_
  exact ⟨rfl, below_set4 (XB.out.setCell (p := ⟨w.heap.size, 3, none⟩) (Nat.le_refl _) (.int .i64 (max a n))) (by omega) _ _ _ _⟩
set_option maxHeartbeats 800000 in
theorem fill_back (s l k a n : Int) (w : World) (ha : I64 a) (hn : I64 n) (hr : rB s l k = true) (hl : ¬ l = s) (han : n < a) :
    Calls Try.prog 17 #[bk s l k a, .int .i64 n] w fun e w' => e = .returned (bk s (l) k (a)) ∧ Below w.heap.size w w' := by
  have T0 := two_new w (cs4 s l k a) (cs4 0 0 0 0) 23 23
  go_enter Try.func17, Try.ntmps17
  go_wp2_with fail
  refine (right_any s l k a _).mono ?_
  rintro e w1 ⟨rfl, h1⟩
  rw [hr]
  have X0 := Lib.hid (Has.below T0.1 h1 T0.1.lt)
  have X1 := Lib.hid (Has.below T0.2.1 h1 T0.2.1.lt)
  have XB := Lib.hid (Below.step T0.2.2 h1 (Nat.le_refl _))
  clear T0 h1
  obtain ⟨⟨c0, c1, c2, c3⟩, g0, g1, g2, g3⟩ := X0.out.fours
  obtain ⟨⟨d0, d1, d2, d3⟩, k0, k1, k2, k3⟩ := X1.out.fours
  go_wp2
  have Y := (X1.out.set4 s (l) k (a)).four
  refine bodyPost_ret (v := bk s (l) k (a)) (by simp [results, Try.results17, go_sem, Y.1, Y.2.1, Y.2.2.1, Y.2.2.2]) rfl ?_
  exact ⟨rfl, below_set4 XB.out (by omega) _ _ _ _⟩
set_option maxHeartbeats 800000 in
theorem fill_on (s l k a n L T : Int) (w : World) (ha : I64 a) (hn : I64 n) (hr : rB s l k = true) (hl : ¬ l = s) (han : ¬ n < a)
    (hE : ∀ w, Calls Try.prog 20 #[bk s l k a, .int .i64 n] w fun e w' => e = .returned (bk s L k T) ∧ Below w.heap.size w w') :
    Calls Try.prog 17 #[bk s l k a, .int .i64 n] w fun e w' => e = .returned (bk s (L) k (T)) ∧ Below w.heap.size w w' := by
  have T0 := two_new w (cs4 s l k a) (cs4 0 0 0 0) 23 23
  go_enter Try.func17, Try.ntmps17
  go_wp2_with fail
  refine (right_any s l k a _).mono ?_
  rintro e w1 ⟨rfl, h1⟩
  rw [hr]
  have X0 := Lib.hid (Has.below T0.1 h1 T0.1.lt)
  have X1 := Lib.hid (Has.below T0.2.1 h1 T0.2.1.lt)
  have XB := Lib.hid (Below.step T0.2.2 h1 (Nat.le_refl _))
  clear T0 h1
  obtain ⟨⟨c0, c1, c2, c3⟩, g0, g1, g2, g3⟩ := X0.out.fours
  obtain ⟨⟨d0, d1, d2, d3⟩, k0, k1, k2, k3⟩ := X1.out.fours
  have HE := Lib.hid hE
  clear hE
  go_wp2_with fail
  refine (HE.out _).mono ?_
  rintro e w2 ⟨rfl, h2⟩
  have X3 := Lib.hid (X1.out.below h2 X1.out.lt)
  have XC := Lib.hid (Below.step XB.out h2 (Nat.le_refl _))
  clear c0 c1 c2 c3 g0 g1 g2 g3 d0 d1 d2 d3 k0 k1 k2 k3 h2 X0 X1 XB
  obtain ⟨⟨d0, d1, d2, d3⟩, k0, k1, k2, k3⟩ := X3.out.fours
  go_wp2
  have Y := (X3.out.set4 s (L) k (T)).four
  refine bodyPost_ret (v := bk s (L) k (T)) (by simp [results, Try.results17, go_sem, Y.1, Y.2.1, Y.2.2.1, Y.2.2.2]) rfl ?_
  exact ⟨rfl, below_set4 XC.out (by omega) _ _ _ _⟩
theorem fill_any (s l k a n : Int) (w : World) (ha : I64 a) (hn : I64 n) :
    Calls Try.prog 17 #[bk s l k a, .int .i64 n] w fun e w' => e = .returned (bk s (fL s l k a n) k (fA s l k a n)) ∧ Below w.heap.size w w' := by
  cases hr : rB s l k with
  | false => rw [(f_no hr).1, (f_no hr).2]; exact fill_no s l k a n w ha hn hr
  | true =>
    by_cases hl : l = s
    · subst hl
      rw [(f_full hr rfl).1, (f_full hr rfl).2]; exact fill_full l k a n w ha hn hr
    · by_cases han : n < a
      · rw [(f_back hr hl han).1, (f_back hr hl han).2]; exact fill_back s l k a n w ha hn hr hl han
      · obtain ⟨hs0, hs1, hl0, hls, hk1, hk2⟩ := rB_yes hr
        rw [(f_on hr hl han).1, (f_on hr hl han).2]
        exact fill_on s l k a n _ _ w ha hn hr hl han fun w => earn_any s l k a n w hs1 hl0 (by omega) hk1 hk2 ha.1 (by omega) hn.2
end Go.Proofs.Ytldbhikempnhjaa
