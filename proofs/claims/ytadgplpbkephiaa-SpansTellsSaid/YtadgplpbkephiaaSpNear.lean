/- Gaps, and where the nearest two stand. -/
import Derived.Test.YtadgplpbkephiaaSpDef
import Derived.Deep.RegionHeld3
namespace Go.Proofs.Ytadgplpbkephiaa
open Go.RowKit
set_option linter.unusedVariables false

/-- How far x is above y. -/
def gpv (y x : Int) : Int := (x - y) % 18446744073709551616
theorem gapU_eq (S : List Sp) (i : Nat) : gapU S i = gpv (sp S i).2 (sp S (i + 1)).1 := rfl
theorem gpv_wrap (y x : Int) : IntKind.u64.wrap (IntKind.u64.wrap x - IntKind.u64.wrap y) = gpv y x := by
  unfold gpv
  rw [IntKind.wrap_u64, IntKind.wrap_u64, IntKind.wrap_u64]
  omega
theorem gpv_wrap' (y x : Int) : (IntKind.u64.wrap x - IntKind.u64.wrap y) % 18446744073709551616 = gpv y x := by
  rw [← gpv_wrap, IntKind.wrap_u64 (_ - _)]
set_option maxHeartbeats 400000 in
theorem gap_any (x y x' y' : Int) (w : World) :
    Calls Try.prog 30 #[.agg #[.int .i64 x, .int .i64 y], .agg #[.int .i64 x', .int .i64 y']] w fun e w' => e = .returned (.int .u64 (gpv y x')) ∧ Below w.heap.size w w' := by
  have hg := gpv_wrap y x'
  have HG := Lib.hid hg
  go_enter Try.func30, Try.ntmps30
  go_wp2
  go_ret
  exact ⟨by trivial, ((Below.refl _ _).alloc (Nat.le_refl _) _).alloc (by simp) _⟩
/-- What a walk over neighbours keeps. -/
structure Nk (w0 w' : World) (b off n c : Nat) (S : List Sp) : Prop where
  sl : Sl w' (some ⟨b, off, none⟩) n c S
  bel : Below w0.heap.size w0 w'
theorem Nk.next {w0 w1 w2 : World} {b off n c : Nat} {S : List Sp} (k : Nk w0 w1 b off n c S) (h : Below w1.heap.size w1 w2) : Nk w0 w2 b off n c S := ⟨k.sl.below h, k.bel.trans (h.mono k.bel.size)⟩
theorem Nk.nextd {w0 w1 w2 : World} {b off n c : Nat} {S : List Sp} (k : Nk w0 w1 b off n c S) (h : Below w1.drew.heap.size w1.drew w2) : Nk w0 w2 b off n c S := ⟨k.sl.drew.below h, k.bel.drew.trans (h.mono k.bel.size)⟩
theorem Nk.all {w0 w' : World} {b off n c : Nat} {S : List Sp} (k : Nk w0 w' b off n c S) {i j p q : Nat} (h : i < n ∧ j < n ∧ p < n ∧ q < n) :
    w'.cell? ⟨b, off + i * 2, none⟩ = some (.int .i64 (sp S i).1) ∧ w'.cell? ⟨b, off + i * 2 + 1, none⟩ = some (.int .i64 (sp S i).2)
    ∧ w'.cell? ⟨b, off + j * 2, none⟩ = some (.int .i64 (sp S j).1) ∧ w'.cell? ⟨b, off + j * 2 + 1, none⟩ = some (.int .i64 (sp S j).2)
    ∧ w'.cell? ⟨b, off + p * 2, none⟩ = some (.int .i64 (sp S p).1) ∧ w'.cell? ⟨b, off + p * 2 + 1, none⟩ = some (.int .i64 (sp S p).2)
    ∧ w'.cell? ⟨b, off + q * 2, none⟩ = some (.int .i64 (sp S q).1) ∧ w'.cell? ⟨b, off + q * 2 + 1, none⟩ = some (.int .i64 (sp S q).2) := by
  obtain ⟨b', off', e, -, hc⟩ := k.sl.all (by omega)
  cases e
  exact ⟨(hc i h.1).1, (hc i h.1).2, (hc j h.2.1).1, (hc j h.2.1).2, (hc p h.2.2.1).1, (hc p h.2.2.1).2, (hc q h.2.2.2).1, (hc q h.2.2.2).2⟩
set_option maxHeartbeats 1000000 in
theorem near_any {w : World} {A : Option Addr} {n c : Nat} {S : List Sp} (h : Sl w A n c S) (h2 : 1 < n) (hn5 : n ≤ 5) :
    Calls Try.prog 27 #[.slice A n c] w fun e w' => e = .returned (.int .i64 (near S (n - 1) : Nat)) ∧ Below w.heap.size w w' := by
  obtain ⟨b, off, rfl, -⟩ := h.all (by omega)
  obtain ⟨n1, hn1⟩ : ∃ n1, n - 1 = n1 := ⟨_, rfl⟩
  have e1 : IntKind.i64.wrap ((n : Int) - 1) = (n1 : Int) := by rw [IntWalk.i64_in _ (by omega)]; omega
  have e2 : (n : Int) - 1 = (n1 : Int) := by omega
  have hn : n1 + 1 = n := by omega
  rw [hn1]
  have HS := Lib.hid h
  clear h hn1
  go_enter Try.func27, Try.ntmps27
  go_wp2
  go_loopw [3, 8] (fun t i wr => ∃ j : Nat, j ≤ n1 ∧ i = .int .i64 j ∧ t = .int .i64 (near S j : Nat) ∧ Below w.heap.size w wr) (fun _ i _ => n1 - (intOf i).toNat)
  case atStart => exact ⟨0, Nat.zero_le _, rfl, rfl, Below.refl _ _⟩
  case round =>
    obtain ⟨j, hj, rfl, rfl, hbel⟩ := hrel
    have HB := Lib.hid hbel
    by_cases hlt : j < n1
    · have hne := (near_lt S j).1
      have HNE : Hid (near S (j + 1) = if gapU S j < gapU S (near S j) then j else near S j) := Lib.hid rfl
      generalize near S j = m at *
      obtain ⟨j1, hj1⟩ : ∃ j1, j + 1 = j1 := ⟨_, rfl⟩
      obtain ⟨m1, hm1⟩ : ∃ m1, m + 1 = m1 := ⟨_, rfl⟩
      have a1 : IntKind.i64.wrap ((j : Int) + 1) = (j1 : Int) := by rw [IntWalk.i64_in _ (by omega)]; omega
      have a2 : (j : Int) + 1 = (j1 : Int) := by omega
      have a3 : IntKind.i64.wrap ((m : Int) + 1) = (m1 : Int) := by rw [IntWalk.i64_in _ (by omega)]; omega
      have a4 : (m : Int) + 1 = (m1 : Int) := by omega
      have a5 : IntKind.i64.wrap (j1 : Int) = (j1 : Int) := IntWalk.i64_in _ (by omega)
      have a6 : IntKind.i64.wrap (m1 : Int) = (m1 : Int) := IntWalk.i64_in _ (by omega)
      have b1 : j1 < n := by omega
      have b2 : m1 < n := by omega
      have b3 : j < n := by omega
      have b4 : m < n := by omega
      have K0 : Nk w wr.drew b off n c S := ⟨(HS.out.below hbel).drew, hbel.drew⟩
      have HIX : j < n ∧ j1 < n ∧ m < n ∧ m1 < n := ⟨b3, b1, b4, b2⟩
      rw [gapU_eq, gapU_eq, hj1, hm1] at HNE
      have HJ := Lib.hid hj1
      clear hbel hj1 hm1 hne
      by_cases hd : gpv (sp S j).2 (sp S j1).1 < gpv (sp S m).2 (sp S m1).1
      · rw [if_pos hd] at HNE
        go_wp2_with fail
        go_region_held3 (fun w' => w'.cell? ⟨b, off + j * 2, none⟩ = some (.int .i64 (sp S j).1) ∧ w'.cell? ⟨b, off + j * 2 + 1, none⟩ = some (.int .i64 (sp S j).2)
            ∧ w'.cell? ⟨b, off + j1 * 2, none⟩ = some (.int .i64 (sp S j1).1) ∧ w'.cell? ⟨b, off + j1 * 2 + 1, none⟩ = some (.int .i64 (sp S j1).2)
            ∧ w'.cell? ⟨b, off + m * 2, none⟩ = some (.int .i64 (sp S m).1) ∧ w'.cell? ⟨b, off + m * 2 + 1, none⟩ = some (.int .i64 (sp S m).2)
            ∧ w'.cell? ⟨b, off + m1 * 2, none⟩ = some (.int .i64 (sp S m1).1) ∧ w'.cell? ⟨b, off + m1 * 2 + 1, none⟩ = some (.int .i64 (sp S m1).2))
          (first | exact Nk.all (by assumption) (by assumption))
          (first | (go_at_call 30; refine (gap_any _ _ _ _ _).mono ?_; rintro e w1 ⟨rfl, h1⟩; first | (have hK := Nk.next (by assumption) h1) | (have hK := Nk.nextd (by assumption) h1)))
        go_wp2
        have HBB := Lib.hid (Nk.bel (by assumption : Nk w _ b off n c S))
        go_roundw
        case rel => exact ⟨j1, by have := HJ.out; omega, by first | rfl | go_num, by rw [HNE.out], HBB.out⟩
        case measure => have := HJ.out; simp [intOf]; omega
      · rw [if_neg hd] at HNE
        go_wp2_with fail
        go_region_held3 (fun w' => w'.cell? ⟨b, off + j * 2, none⟩ = some (.int .i64 (sp S j).1) ∧ w'.cell? ⟨b, off + j * 2 + 1, none⟩ = some (.int .i64 (sp S j).2)
            ∧ w'.cell? ⟨b, off + j1 * 2, none⟩ = some (.int .i64 (sp S j1).1) ∧ w'.cell? ⟨b, off + j1 * 2 + 1, none⟩ = some (.int .i64 (sp S j1).2)
            ∧ w'.cell? ⟨b, off + m * 2, none⟩ = some (.int .i64 (sp S m).1) ∧ w'.cell? ⟨b, off + m * 2 + 1, none⟩ = some (.int .i64 (sp S m).2)
            ∧ w'.cell? ⟨b, off + m1 * 2, none⟩ = some (.int .i64 (sp S m1).1) ∧ w'.cell? ⟨b, off + m1 * 2 + 1, none⟩ = some (.int .i64 (sp S m1).2))
          (first | exact Nk.all (by assumption) (by assumption))
          (first | (go_at_call 30; refine (gap_any _ _ _ _ _).mono ?_; rintro e w1 ⟨rfl, h1⟩; first | (have hK := Nk.next (by assumption) h1) | (have hK := Nk.nextd (by assumption) h1)))
        go_wp2
        have HBB := Lib.hid (Nk.bel (by assumption : Nk w _ b off n c S))
        go_roundw
        case rel => exact ⟨j1, by have := HJ.out; omega, by first | rfl | go_num, by rw [HNE.out], HBB.out⟩
        case measure => have := HJ.out; simp [intOf]; omega
    · obtain rfl : j = n1 := by omega
      clear hbel
      go_wp2
      go_ret
      exact ⟨rfl, HB.out⟩
end Go.Proofs.Ytadgplpbkephiaa
