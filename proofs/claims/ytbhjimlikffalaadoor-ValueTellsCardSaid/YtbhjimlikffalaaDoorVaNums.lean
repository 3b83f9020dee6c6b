/- Layer 8: Add, Sub, Mul, Div, Rem, compares. -/
import Derived.Test.YtbhjimlikffalaaDoorVaMath
import Derived.Test.YtbhjimlikffalaaDoorExBasic
namespace Go.Proofs.YtbhjimlikffalaaDoor
open Go.RowKit
set_option linter.unusedVariables false

/-- What a call of two results tells. -/
def two (p : Int × Bool) : Value := .tuple #[.int .i64 p.1, .bool p.2]
theorem ret_tw {x : Int} {b : Bool} {p : Int × Bool} (h : (x, b) = p) : Ending.returned (.tuple #[.int .i64 x, .bool b]) = .returned (two p) := by cases h; rfl
set_option maxHeartbeats 1000000 in
theorem add_any (a b : Int) (ha : in64 a) (hb : in64 b) (w : World) :
    Calls Tryd.prog 19 #[.int .i64 a, .int .i64 b] w fun e w' => e = .returned (two (addV a b)) ∧ w = w' := by
  obtain ⟨p, hp⟩ : ∃ p, addV a b = p := ⟨_, rfl⟩
  rw [hp]
  by_cases h : in64 (a + b)
  · have HP : Hid ((a + b, true) = p) := Lib.hid (by rw [← hp, addV, ck_yes h])
    have h1 : -9223372036854775808 ≤ a + b ∧ a + b ≤ 9223372036854775807 := h
    have h2 : decide (a + b < a) = decide (b < 0) := by by_cases hb0 : b < 0 <;> simp [hb0] <;> omega
    clear hp h
    go_enter Tryd.func19, Tryd.ntmps19
    go_wp2
    all_goals go_ret2
    all_goals first | exact ⟨ret_tw HP.out, rfl⟩ | (exfalso; simp_all; done) | (exfalso; omega)
  · have HP : Hid ((0, false) = p) := Lib.hid (by rw [← hp, addV, ck_no h])
    obtain ⟨s, hs⟩ : ∃ s, s = IntKind.i64.wrap (a + b) := ⟨_, rfl⟩
    have h2 := add_no ha hb h hs
    have h3 := hs.symm
    clear hp h hs
    go_enter Tryd.func19, Tryd.ntmps19
    go_wp2
    all_goals go_ret2
    all_goals first | exact ⟨ret_tw HP.out, rfl⟩ | (exfalso; simp_all; done) | (exfalso; omega)
set_option maxHeartbeats 1000000 in
theorem sub_any (a b : Int) (ha : in64 a) (hb : in64 b) (w : World) :
    Calls Tryd.prog 21 #[.int .i64 a, .int .i64 b] w fun e w' => e = .returned (two (subV a b)) ∧ w = w' := by
  obtain ⟨p, hp⟩ : ∃ p, subV a b = p := ⟨_, rfl⟩
  rw [hp]
  by_cases h : in64 (a - b)
  · have HP : Hid ((a - b, true) = p) := Lib.hid (by rw [← hp, subV, ck_yes h])
    have h1 : -9223372036854775808 ≤ a - b ∧ a - b ≤ 9223372036854775807 := h
    have h2 : decide (a < a - b) = decide (b < 0) := by by_cases hb0 : b < 0 <;> simp [hb0] <;> omega
    clear hp h
    go_enter Tryd.func21, Tryd.ntmps21
    go_wp2
    all_goals go_ret2
    all_goals first | exact ⟨ret_tw HP.out, rfl⟩ | (exfalso; simp_all; done) | (exfalso; omega)
  · have HP : Hid ((0, false) = p) := Lib.hid (by rw [← hp, subV, ck_no h])
    obtain ⟨s, hs⟩ : ∃ s, s = IntKind.i64.wrap (a - b) := ⟨_, rfl⟩
    have h2 := sub_no ha hb h hs
    have h3 := hs.symm
    clear hp h hs
    go_enter Tryd.func21, Tryd.ntmps21
    go_wp2
    all_goals go_ret2
    all_goals first | exact ⟨ret_tw HP.out, rfl⟩ | (exfalso; simp_all; done) | (exfalso; omega)
theorem divides_any (a b : Int) (w : World) :
    Calls Tryd.prog 56 #[.int .i64 a, .int .i64 b] w fun e w' => e = .returned (.bool (decide (divOk a b))) ∧ w = w' := by
  obtain ⟨p, hp⟩ : ∃ p, decide (divOk a b) = p := ⟨_, rfl⟩
  rw [hp]
  have HP := Lib.hid hp
  clear hp
  go_enter Tryd.func56, Tryd.ntmps56
  go_wp2
  all_goals go_ret
  all_goals
    refine ⟨ret_bool ?_, rfl⟩
    rw [← HP.out]
    clear HP
    rw [Bool.eq_iff_iff]
    simp_all [divOk]
set_option maxHeartbeats 1000000 in
theorem div_any (a b : Int) (ha : in64 a) (w : World) :
    Calls Tryd.prog 25 #[.int .i64 a, .int .i64 b] w fun e w' => e = .returned (two (divV a b)) ∧ w = w' := by
  obtain ⟨p, hp⟩ : ∃ p, divV a b = p := ⟨_, rfl⟩
  rw [hp]
  have HC := Lib.hid (divides_any a b w)
  by_cases h : divOk a b
  · have HP : Hid ((a.tdiv b, true) = p) := Lib.hid (by rw [← hp, divV, if_pos h])
    have h1 : -9223372036854775808 ≤ a.tdiv b ∧ a.tdiv b ≤ 9223372036854775807 := tdiv_in ha h
    have h2 : decide (divOk a b) = true := by simpa using h
    have h3 : b ≠ 0 := h.1
    clear hp h
    rw [h2] at HC
    go_enter Tryd.func25, Tryd.ntmps25
    go_wp2_with (go_at_call 56; refine HC.out.mono ?_; rintro e w' ⟨rfl, rfl⟩)
    go_ret2
    exact ⟨ret_tw HP.out, rfl⟩
  · have HP : Hid ((0, false) = p) := Lib.hid (by rw [← hp, divV, if_neg h])
    have h2 : decide (divOk a b) = false := by simpa using h
    clear hp h
    rw [h2] at HC
    go_enter Tryd.func25, Tryd.ntmps25
    go_wp2_with (go_at_call 56; refine HC.out.mono ?_; rintro e w' ⟨rfl, rfl⟩)
    go_ret2
    exact ⟨ret_tw HP.out, rfl⟩
set_option maxHeartbeats 1000000 in
theorem rem_any (a b : Int) (ha : in64 a) (hb : in64 b) (w : World) :
    Calls Tryd.prog 27 #[.int .i64 a, .int .i64 b] w fun e w' => e = .returned (two (remV a b)) ∧ w = w' := by
  obtain ⟨p, hp⟩ : ∃ p, remV a b = p := ⟨_, rfl⟩
  rw [hp]
  have HC := Lib.hid (divides_any a b w)
  by_cases h : divOk a b
  · have HP : Hid ((a.tmod b, true) = p) := Lib.hid (by rw [← hp, remV, if_pos h])
    have h1 : -9223372036854775808 ≤ a.tmod b ∧ a.tmod b ≤ 9223372036854775807 := tmod_in ha hb h
    have h2 : decide (divOk a b) = true := by simpa using h
    have h3 : b ≠ 0 := h.1
    clear hp h
    rw [h2] at HC
    go_enter Tryd.func27, Tryd.ntmps27
    go_wp2_with (go_at_call 56; refine HC.out.mono ?_; rintro e w' ⟨rfl, rfl⟩)
    go_ret2
    exact ⟨ret_tw HP.out, rfl⟩
  · have HP : Hid ((0, false) = p) := Lib.hid (by rw [← hp, remV, if_neg h])
    have h2 : decide (divOk a b) = false := by simpa using h
    clear hp h
    rw [h2] at HC
    go_enter Tryd.func27, Tryd.ntmps27
    go_wp2_with (go_at_call 56; refine HC.out.mono ?_; rintro e w' ⟨rfl, rfl⟩)
    go_ret2
    exact ⟨ret_tw HP.out, rfl⟩
set_option maxHeartbeats 2000000 in
theorem mul_any (a b : Int) (ha : in64 a) (hb : in64 b) (w : World) :
    Calls Tryd.prog 23 #[.int .i64 a, .int .i64 b] w fun e w' => e = .returned (two (mulV a b)) ∧ w = w' := by
  obtain ⟨p, hp⟩ : ∃ p, mulV a b = p := ⟨_, rfl⟩
  rw [hp]
  by_cases hz : b = 0
  · subst hz
    have HP : Hid ((0, true) = p) := Lib.hid (by rw [← hp, mulV, Int.mul_zero, ck_yes (by unfold in64; decide)])
    clear hp
    go_enter Tryd.func23, Tryd.ntmps23
    go_wp2
    all_goals go_ret2
    all_goals exact ⟨ret_tw HP.out, rfl⟩
  have z0 : (b == 0) = false := by simpa using hz
  by_cases h : in64 (a * b)
  · have HP : Hid ((a * b, true) = p) := Lib.hid (by rw [← hp, mulV, ck_yes h])
    have hm := mul_yes ha hz h
    have hc := div_any (a * b) b h w
    rw [divV, if_pos hm.1, hm.2] at hc
    have h3 : IntKind.i64.wrap (a * b) = a * b := by rw [IntKind.wrap_i64]; unfold in64 at h; omega
    have h1 : -9223372036854775808 ≤ a * b ∧ a * b ≤ 9223372036854775807 := h
    have HC := Lib.hid hc
    clear hp h hc hm
    obtain ⟨q, hq⟩ : ∃ q, a * b = q := ⟨_, rfl⟩
    rw [hq] at h1 h3 HC HP
    go_enter Tryd.func23, Tryd.ntmps23
    go_wp2_with (go_at_call 25; refine HC.out.mono ?_; rw [two]; rintro e w' ⟨rfl, rfl⟩)
    all_goals go_ret2
    all_goals exact ⟨ret_tw HP.out, rfl⟩
  · have HP : Hid ((0, false) = p) := Lib.hid (by rw [← hp, mulV, ck_no h])
    obtain ⟨s, hs⟩ : ∃ s, s = IntKind.i64.wrap (a * b) := ⟨_, rfl⟩
    have hsi : in64 s := by rw [hs, IntKind.wrap_i64]; unfold in64; omega
    have hc := div_any s b hsi w
    have hn := mul_no ha hb h hs
    have h3 := hs.symm
    obtain ⟨d, hd⟩ : ∃ d, divV s b = d := ⟨_, rfl⟩
    obtain ⟨d1, d2⟩ := d
    have hne : d2 = false ∨ d2 = true ∧ (d1 != a) = true := by
      unfold divV at hd
      split at hd
      · rename_i ho; cases hd; exact .inr ⟨rfl, by simpa using hn ho⟩
      · cases hd; exact .inl rfl
    rw [hd] at hc
    have HC := Lib.hid hc
    clear hp h hs hc hn hd hsi
    rcases hne with rfl | ⟨rfl, hne⟩
    all_goals
      go_enter Tryd.func23, Tryd.ntmps23
      go_wp2_with (go_at_call 25; refine HC.out.mono ?_; rw [two]; rintro e w' ⟨rfl, rfl⟩)
      all_goals go_ret2
      all_goals exact ⟨ret_tw HP.out, rfl⟩
/-- What a comparison tells. -/
def cmpV (op : Nm) (a b : Int) : Bool :=
  if op = [61, 61] then a == b else if op = [33, 61] then a != b else if op = [60] then decide (a < b) else if op = [60, 61] then decide (a ≤ b) else if op = [62] then decide (b < a) else decide (b ≤ a)
set_option maxHeartbeats 2000000 in
theorem compares_any (op : Nm) (a b : Int) (w : World) :
    Calls Tryd.prog 101 #[.string (str op), .int .i64 a, .int .i64 b] w fun e w' => e = .returned (.bool (cmpV op a b)) ∧ w = w' := by
  obtain ⟨p, hp⟩ : ∃ p, cmpV op a b = p := ⟨_, rfl⟩
  rw [hp]
  have HP := Lib.hid hp
  have e1 := str_toList op
  clear hp
  go_enter Tryd.func101, Tryd.ntmps101
  go_wp2
  all_goals go_ret
  all_goals
    refine ⟨ret_bool ?_, rfl⟩
    rw [← HP.out, cmpV]
    clear HP
    simp_all
end Go.Proofs.YtbhjimlikffalaaDoor
