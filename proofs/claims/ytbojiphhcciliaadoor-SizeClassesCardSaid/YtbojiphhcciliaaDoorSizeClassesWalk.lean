/- The statement SizeClasses, called with a number of 8 bits and one of 16 bits in any memory in which the table of classes reads as it is written, returns true and writes nothing that was there. -/
import Derived.Test.YtbojiphhcciliaaDoorSizeHead
import Derived.Deep.QuietTactic
import Derived.BigQuiet
import Derived.WalkSmall
namespace Go.Proofs.YtbojiphhcciliaaDoor
open Go.RowKit
set_option linter.unusedVariables false

theorem in_class {n : Int} (k : Nat) (hk : k < 7) (h0 : 0 ≤ n) (h1 : k = 0 ∨ cv (k - 1) < n) (h2 : n ≤ cv k) : cls n = k ∧ rnd n = cv k ∧ rok n = true := by
  have hb := cv_cases hk
  obtain ⟨j, hj, e1, e2, _⟩ := rnd_of h0 (by omega)
  have e3 := cls_of k hk h0 h1 h2
  obtain rfl : j = k := by omega
  exact ⟨e1, e2, rok_yes h0 (by omega)⟩

set_option maxRecDepth 100000 in
set_option maxHeartbeats 8000000 in
theorem classes_walk (c n : Int) (hc0 : 0 ≤ c) (hc1 : c ≤ 255) (hn0 : 0 ≤ n) (hn1 : n ≤ 65535) (w : World) (ht : Tab w) :
    Calls Tryd.prog 6 #[.int .u8 c, .int .u16 n] w fun e w' => e = .returned (.bool true) ∧ Below w.heap.size w w' := by
  go_enter Tryd.func6, Tryd.ntmps6
  go_wp2_with fail
  refine (examples_any _ ht).mono ?_
  rintro e w1 ⟨rfl, hb1⟩
  have ht1 := Lib.hid (ht.below hb1)
  have HB1 := Lib.hid hb1
  clear hb1 ht
  go_wp2_with fail
  refine (classes_any _ ht1.out).mono ?_
  rintro e w2 ⟨rfl, hh, hb2⟩
  have HT2 := Lib.hid (ht1.out.below hb2)
  have HB2 : Hid (Below w.heap.size w w2) := Lib.hid (HB1.out.trans (hb2.mono HB1.out.size))
  have g0 : w2.cell? ⟨w1.heap.size, 0, none⟩ = some (.int .i64 16) := hh.cell 0
  have g1 : w2.cell? ⟨w1.heap.size, 1, none⟩ = some (.int .i64 32) := hh.cell 1
  have g2 : w2.cell? ⟨w1.heap.size, 2, none⟩ = some (.int .i64 64) := hh.cell 2
  have g3 : w2.cell? ⟨w1.heap.size, 3, none⟩ = some (.int .i64 128) := hh.cell 3
  have g4 : w2.cell? ⟨w1.heap.size, 4, none⟩ = some (.int .i64 256) := hh.cell 4
  have g5 : w2.cell? ⟨w1.heap.size, 5, none⟩ = some (.int .i64 512) := hh.cell 5
  have g6 : w2.cell? ⟨w1.heap.size, 6, none⟩ = some (.int .i64 1024) := hh.cell 6
  clear hb2 ht1 HB1 hh
  generalize w1.heap.size = B at g0 g1 g2 g3 g4 g5 g6 ⊢
  rcases (by omega : c % 7 = 0 ∨ c % 7 = 1 ∨ c % 7 = 2 ∨ c % 7 = 3 ∨ c % 7 = 4 ∨ c % 7 = 5 ∨ c % 7 = 6) with hI | hI | hI | hI | hI | hI | hI
  · go_wp2_with fail
    generalize hM : n % 17 = mm
    have hm0 : 0 ≤ mm := by omega
    have hm1 : mm ≤ 16 := by omega
    have HC := Lib.hid (in_class (n := mm) 0 (by omega) (by omega) (.inl rfl) (by simp [cv]; omega))
    clear hM
    refine (round_any mm w2 (by exact HT2.out)).mono ?_
    rintro e w' ⟨rfl, rfl⟩
    rw [HC.out.2.1, HC.out.2.2, show cv 0 = 16 from rfl]
    go_wp2_with fail
    refine (class_any 16 w2 (by exact HT2.out)).mono ?_
    rintro e w' ⟨rfl, rfl⟩
    rw [show cls 16 = 0 by decide]
    go_wp2_with fail
    refine (class_any mm w2 (by exact HT2.out)).mono ?_
    rintro e w' ⟨rfl, rfl⟩
    rw [HC.out.1, show ((0 : Nat) : Int) = 0 from rfl]
    go_wp2_with fail
    refine (class_any _ w2 (by exact HT2.out)).mono ?_
    rintro e w' ⟨rfl, rfl⟩
    rw [cls_big (by omega)]
    go_wp2_with fail
    refine (class_any _ w2 (by exact HT2.out)).mono ?_
    rintro e w' ⟨rfl, rfl⟩
    rw [cls_neg (by omega)]
    go_wp2
    go_ret
    exact ⟨rfl, HB2.out⟩
  · go_wp2_with fail
    go_quiet (fail)
    go_wp2_with fail
    generalize hM : 17 + n % 16 = mm
    have hm0 : 17 ≤ mm := by omega
    have hm1 : mm ≤ 32 := by omega
    have HC := Lib.hid (in_class (n := mm) 1 (by omega) (by omega) (.inr (by simp [cv]; omega)) (by simp [cv]; omega))
    clear hM
    refine (round_any mm (w2.drewN nq) (by exact HT2.out)).mono ?_
    rintro e w' ⟨rfl, rfl⟩
    rw [HC.out.2.1, HC.out.2.2, show cv 1 = 32 from rfl]
    go_wp2_with fail
    refine (class_any 32 (w2.drewN nq) (by exact HT2.out)).mono ?_
    rintro e w' ⟨rfl, rfl⟩
    rw [show cls 32 = 1 by decide]
    go_wp2_with fail
    refine (class_any mm (w2.drewN nq) (by exact HT2.out)).mono ?_
    rintro e w' ⟨rfl, rfl⟩
    rw [HC.out.1, show ((1 : Nat) : Int) = 1 from rfl]
    go_wp2_with fail
    refine (class_any _ (w2.drewN nq) (by exact HT2.out)).mono ?_
    rintro e w' ⟨rfl, rfl⟩
    rw [cls_big (by omega)]
    go_wp2_with fail
    refine (class_any _ (w2.drewN nq) (by exact HT2.out)).mono ?_
    rintro e w' ⟨rfl, rfl⟩
    rw [cls_neg (by omega)]
    go_wp2
    go_ret
    exact ⟨rfl, below_drewN HB2.out _⟩
  · go_wp2_with fail
    go_quiet (fail)
    go_wp2_with fail
    generalize hM : 33 + n % 32 = mm
    have hm0 : 33 ≤ mm := by omega
    have hm1 : mm ≤ 64 := by omega
    have HC := Lib.hid (in_class (n := mm) 2 (by omega) (by omega) (.inr (by simp [cv]; omega)) (by simp [cv]; omega))
    clear hM
    refine (round_any mm (w2.drewN nq) (by exact HT2.out)).mono ?_
    rintro e w' ⟨rfl, rfl⟩
    rw [HC.out.2.1, HC.out.2.2, show cv 2 = 64 from rfl]
    go_wp2_with fail
    refine (class_any 64 (w2.drewN nq) (by exact HT2.out)).mono ?_
    rintro e w' ⟨rfl, rfl⟩
    rw [show cls 64 = 2 by decide]
    go_wp2_with fail
    refine (class_any mm (w2.drewN nq) (by exact HT2.out)).mono ?_
    rintro e w' ⟨rfl, rfl⟩
    rw [HC.out.1, show ((2 : Nat) : Int) = 2 from rfl]
    go_wp2_with fail
    refine (class_any _ (w2.drewN nq) (by exact HT2.out)).mono ?_
    rintro e w' ⟨rfl, rfl⟩
    rw [cls_big (by omega)]
    go_wp2_with fail
    refine (class_any _ (w2.drewN nq) (by exact HT2.out)).mono ?_
    rintro e w' ⟨rfl, rfl⟩
    rw [cls_neg (by omega)]
    go_wp2
    go_ret
    exact ⟨rfl, below_drewN HB2.out _⟩
  · go_wp2_with fail
    go_quiet (fail)
    go_wp2_with fail
    generalize hM : 65 + n % 64 = mm
    have hm0 : 65 ≤ mm := by omega
    have hm1 : mm ≤ 128 := by omega
    have HC := Lib.hid (in_class (n := mm) 3 (by omega) (by omega) (.inr (by simp [cv]; omega)) (by simp [cv]; omega))
    clear hM
    refine (round_any mm (w2.drewN nq) (by exact HT2.out)).mono ?_
    rintro e w' ⟨rfl, rfl⟩
    rw [HC.out.2.1, HC.out.2.2, show cv 3 = 128 from rfl]
    go_wp2_with fail
    refine (class_any 128 (w2.drewN nq) (by exact HT2.out)).mono ?_
    rintro e w' ⟨rfl, rfl⟩
    rw [show cls 128 = 3 by decide]
    go_wp2_with fail
    refine (class_any mm (w2.drewN nq) (by exact HT2.out)).mono ?_
    rintro e w' ⟨rfl, rfl⟩
    rw [HC.out.1, show ((3 : Nat) : Int) = 3 from rfl]
    go_wp2_with fail
    refine (class_any _ (w2.drewN nq) (by exact HT2.out)).mono ?_
    rintro e w' ⟨rfl, rfl⟩
    rw [cls_big (by omega)]
    go_wp2_with fail
    refine (class_any _ (w2.drewN nq) (by exact HT2.out)).mono ?_
    rintro e w' ⟨rfl, rfl⟩
    rw [cls_neg (by omega)]
    go_wp2
    go_ret
    exact ⟨rfl, below_drewN HB2.out _⟩
  · go_wp2_with fail
    go_quiet (fail)
    go_wp2_with fail
    generalize hM : 129 + n % 128 = mm
    have hm0 : 129 ≤ mm := by omega
    have hm1 : mm ≤ 256 := by omega
    have HC := Lib.hid (in_class (n := mm) 4 (by omega) (by omega) (.inr (by simp [cv]; omega)) (by simp [cv]; omega))
    clear hM
    refine (round_any mm (w2.drewN nq) (by exact HT2.out)).mono ?_
    rintro e w' ⟨rfl, rfl⟩
    rw [HC.out.2.1, HC.out.2.2, show cv 4 = 256 from rfl]
    go_wp2_with fail
    refine (class_any 256 (w2.drewN nq) (by exact HT2.out)).mono ?_
    rintro e w' ⟨rfl, rfl⟩
    rw [show cls 256 = 4 by decide]
    go_wp2_with fail
    refine (class_any mm (w2.drewN nq) (by exact HT2.out)).mono ?_
    rintro e w' ⟨rfl, rfl⟩
    rw [HC.out.1, show ((4 : Nat) : Int) = 4 from rfl]
    go_wp2_with fail
    refine (class_any _ (w2.drewN nq) (by exact HT2.out)).mono ?_
    rintro e w' ⟨rfl, rfl⟩
    rw [cls_big (by omega)]
    go_wp2_with fail
    refine (class_any _ (w2.drewN nq) (by exact HT2.out)).mono ?_
    rintro e w' ⟨rfl, rfl⟩
    rw [cls_neg (by omega)]
    go_wp2
    go_ret
    exact ⟨rfl, below_drewN HB2.out _⟩
  · go_wp2_with fail
    go_quiet (fail)
    go_wp2_with fail
    generalize hM : 257 + n % 256 = mm
    have hm0 : 257 ≤ mm := by omega
    have hm1 : mm ≤ 512 := by omega
    have HC := Lib.hid (in_class (n := mm) 5 (by omega) (by omega) (.inr (by simp [cv]; omega)) (by simp [cv]; omega))
    clear hM
    refine (round_any mm (w2.drewN nq) (by exact HT2.out)).mono ?_
    rintro e w' ⟨rfl, rfl⟩
    rw [HC.out.2.1, HC.out.2.2, show cv 5 = 512 from rfl]
    go_wp2_with fail
    refine (class_any 512 (w2.drewN nq) (by exact HT2.out)).mono ?_
    rintro e w' ⟨rfl, rfl⟩
    rw [show cls 512 = 5 by decide]
    go_wp2_with fail
    refine (class_any mm (w2.drewN nq) (by exact HT2.out)).mono ?_
    rintro e w' ⟨rfl, rfl⟩
    rw [HC.out.1, show ((5 : Nat) : Int) = 5 from rfl]
    go_wp2_with fail
    refine (class_any _ (w2.drewN nq) (by exact HT2.out)).mono ?_
    rintro e w' ⟨rfl, rfl⟩
    rw [cls_big (by omega)]
    go_wp2_with fail
    refine (class_any _ (w2.drewN nq) (by exact HT2.out)).mono ?_
    rintro e w' ⟨rfl, rfl⟩
    rw [cls_neg (by omega)]
    go_wp2
    go_ret
    exact ⟨rfl, below_drewN HB2.out _⟩
  · go_wp2_with fail
    go_quiet (fail)
    go_wp2_with fail
    generalize hM : 513 + n % 512 = mm
    have hm0 : 513 ≤ mm := by omega
    have hm1 : mm ≤ 1024 := by omega
    have HC := Lib.hid (in_class (n := mm) 6 (by omega) (by omega) (.inr (by simp [cv]; omega)) (by simp [cv]; omega))
    clear hM
    refine (round_any mm (w2.drewN nq) (by exact HT2.out)).mono ?_
    rintro e w' ⟨rfl, rfl⟩
    rw [HC.out.2.1, HC.out.2.2, show cv 6 = 1024 from rfl]
    go_wp2_with fail
    refine (class_any 1024 (w2.drewN nq) (by exact HT2.out)).mono ?_
    rintro e w' ⟨rfl, rfl⟩
    rw [show cls 1024 = 6 by decide]
    go_wp2_with fail
    refine (class_any mm (w2.drewN nq) (by exact HT2.out)).mono ?_
    rintro e w' ⟨rfl, rfl⟩
    rw [HC.out.1, show ((6 : Nat) : Int) = 6 from rfl]
    go_wp2_with fail
    refine (class_any _ (w2.drewN nq) (by exact HT2.out)).mono ?_
    rintro e w' ⟨rfl, rfl⟩
    rw [cls_big (by omega)]
    go_wp2_with fail
    refine (class_any _ (w2.drewN nq) (by exact HT2.out)).mono ?_
    rintro e w' ⟨rfl, rfl⟩
    rw [cls_neg (by omega)]
    go_wp2
    go_ret
    exact ⟨rfl, below_drewN HB2.out _⟩
end Go.Proofs.YtbojiphhcciliaaDoor
