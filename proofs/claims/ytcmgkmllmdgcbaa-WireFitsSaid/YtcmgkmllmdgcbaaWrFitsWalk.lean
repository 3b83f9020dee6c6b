/- WireFits returns true, as a walk. -/
import Derived.Test.YtcmgkmllmdgcbaaWrHead2
namespace Go.Proofs.Ytcmgkmllmdgcbaa
open Go.RowKit
set_option linter.unusedVariables false

theorem three_le : 3 ≤ maxLen := by unfold maxLen; omega
theorem small_le {N : Nat} (h : N ≤ 9) : N ≤ maxLen := by unfold maxLen; omega
theorem tmod5 (a : Int) : -5 < a.tmod 5 ∧ a.tmod 5 < 5 := ⟨Int.lt_tmod_of_pos a (by omega), Int.tmod_lt_of_pos a (by omega)⟩
theorem three_cases (z : Int) (h0 : 0 ≤ z) (h1 : z ≤ 2) : ∃ k m : Nat, z = k ∧ k < 3 ∧ (∀ N, fitE [2, 2, 3] z N = if m = N then 0 else 7) ∧ (#[.int .i64 2, .int .i64 2, .int .i64 3] : Array Value)[k]? = some (.int .i64 (m : Int)) := by
  rcases (show z = 0 ∨ z = 1 ∨ z = 2 by omega) with rfl | rfl | rfl
  · exact ⟨0, 2, rfl, by omega, fun N => fitE_in (fl := [2, 2, 3]) (k := 0) rfl, rfl⟩
  · exact ⟨1, 2, rfl, by omega, fun N => fitE_in (fl := [2, 2, 3]) (k := 1) rfl, rfl⟩
  · exact ⟨2, 3, rfl, by omega, fun N => fitE_in (fl := [2, 2, 3]) (k := 2) rfl, rfl⟩

set_option maxRecDepth 100000 in
set_option maxHeartbeats 4000000 in
theorem fits_walk (kind n : Int) (near : Bool) (w : World) (hk : -9223372036854775808 ≤ kind ∧ kind ≤ 9223372036854775807) (hn : 0 ≤ n ∧ n ≤ 255) :
    Calls Try.prog 6 #[.int .i64 kind, .int .u8 n, .bool near] w fun e w' => e = .returned (.bool true) ∧ Below w.heap.size w w' := by
  obtain ⟨hk0, hk1⟩ := hk
  obtain ⟨hn0, hn1⟩ := hn
  go_enter Try.func6, Try.ntmps6
  go_wp2_with fail
  refine (examples_any w).mono ?_
  rintro e w1 ⟨rfl, h1⟩
  have B1 := Lib.hid h1
  clear h1
  obtain ⟨N, hN⟩ : ∃ N : Nat, n % 10 = N := ⟨(n % 10).toNat, by omega⟩
  have HNN : Hid (N ≤ 9) := Lib.hid (by omega)
  have hN9 := HNN.out
  cases near
  · have hz1 := hk1
    have hm := make_ints N (by omega)
    go_wp2_with fail
    have E2 := Lib.hid (has_new (w1.alloc (.cells (icells (List.replicate N 0)) 2)) #[.int .i64 kind, .int .i64 0, .slice (some ⟨w1.heap.size, 0, none⟩) N N] 24)
    have B2 := Lib.hid ((B1.out.alloc B1.out.size (.cells (icells (List.replicate N 0)) 2)).alloc (by have := B1.out.size; simp; omega) (.cells #[.int .i64 kind, .int .i64 0, .slice (some ⟨w1.heap.size, 0, none⟩) N N] 24))
    rw [show (w1.alloc (.cells (icells (List.replicate N 0)) 2)).heap.size = w1.heap.size + 1 by simp] at E2
    clear hm B1
    generalize (w1.alloc (.cells (icells (List.replicate N 0)) 2)).alloc (.cells #[.int .i64 kind, .int .i64 0, .slice (some ⟨w1.heap.size, 0, none⟩) N N] 24) = w2 at *
    generalize (some ⟨w1.heap.size, 0, none⟩ : Option Addr) = A at *
    generalize w1.heap.size + 1 = p at *
    go_region_held3 (fun w' => w'.cell? ⟨p, 0, none⟩ = some (.int .i64 kind) ∧ w'.cell? ⟨p, 1, none⟩ = some (.int .i64 0) ∧ w'.cell? ⟨p, 2, none⟩ = some (.slice A N N))
      (first | exact E4.out.three | exact E3.out.three | exact E2.out.three)
      (first
        | (go_at_call 15; refine (kinds_any _).mono ?_; rintro e w3 ⟨A3, rfl, h3, hk3⟩; have E3 := Lib.hid (E2.out.drew.next h3); have B3 := Lib.hid (Below.step B2.out.drew h3 (Nat.le_refl _)); have K3 := Lib.hid hk3; clear h3 hk3)
        | (go_at_call 19; refine (wfits_any A3 A [2, 2, 3] 3 3 kind 0 N N _ rfl three_le (small_le HNN.out) fl_small K3.out hz1).mono ?_; rintro e w4 ⟨rfl, h4⟩; have E4 := Lib.hid (E3.out.next h4); have B4 := Lib.hid (Below.step B3.out h4 (Nat.le_refl _)); clear h4))
    clear E2 B2 E3 B3 K3
    have q2 := E4.out.three.2.2
    clear E4
    by_cases ho : kind < 0 ∨ 2 < kind
    · rw [fitE_out (fl := [2, 2, 3]) (n := N) (K := kind) (by simp; omega)]
      have d5 : ((5 : Int) == 5) = true := by simp
      rcases ho with ho | ho
      · go_wp2
        go_ret
        exact ⟨rfl, B4.out⟩
      · go_wp2
        go_ret
        exact ⟨rfl, B4.out⟩
    · obtain ⟨k, m, hkz, hk3, hfm, hmm⟩ := three_cases kind (by omega) (by omega)
      rw [hfm N]
      subst hkz
      clear hfm ho
      have hc : (w4.alloc (.cells #[.int .i64 2, .int .i64 2, .int .i64 3] 3)).cell? ⟨w4.heap.size, k, none⟩ = some (.int .i64 (m : Int)) := (Has.cell (has_new w4 _ _) k).trans hmm
      clear hmm
      have q3 : (w4.alloc (.cells #[.int .i64 2, .int .i64 2, .int .i64 3] 3)).cell? ⟨p, 2, none⟩ = some (.slice A N N) := (World.cell?_alloc_lt _ _ _ (World.block_lt_of_cell? _ _ q2)).trans q2
      by_cases hmn : m = N
      · subst hmn
        rw [if_pos rfl]
        have d1 : ((m : Int) == (m : Int)) = true := by simp
        go_wp2
        go_ret
        exact ⟨rfl, B4.out.alloc B4.out.size _⟩
      · rw [if_neg hmn]
        have d1 : ((N : Int) == (m : Int)) = false := by simp; omega
        go_wp2
        go_ret
        exact ⟨rfl, B4.out.alloc B4.out.size _⟩
  · obtain ⟨z, hz⟩ : ∃ z : Int, kind.tmod 5 = z := ⟨_, rfl⟩
    have hz0 : -9223372036854775808 ≤ z := by rw [← hz]; have := tmod5 kind; omega
    have hz1 : z ≤ 9223372036854775807 := by rw [← hz]; have := tmod5 kind; omega
    have hm := make_ints N (by omega)
    go_wp2_with fail
    have E2 := Lib.hid (has_new (w1.alloc (.cells (icells (List.replicate N 0)) 2)) #[.int .i64 z, .int .i64 0, .slice (some ⟨w1.heap.size, 0, none⟩) N N] 24)
    have B2 := Lib.hid ((B1.out.alloc B1.out.size (.cells (icells (List.replicate N 0)) 2)).alloc (by have := B1.out.size; simp; omega) (.cells #[.int .i64 z, .int .i64 0, .slice (some ⟨w1.heap.size, 0, none⟩) N N] 24))
    rw [show (w1.alloc (.cells (icells (List.replicate N 0)) 2)).heap.size = w1.heap.size + 1 by simp] at E2
    clear hm B1
    generalize (w1.alloc (.cells (icells (List.replicate N 0)) 2)).alloc (.cells #[.int .i64 z, .int .i64 0, .slice (some ⟨w1.heap.size, 0, none⟩) N N] 24) = w2 at *
    generalize (some ⟨w1.heap.size, 0, none⟩ : Option Addr) = A at *
    generalize w1.heap.size + 1 = p at *
    go_region_held3 (fun w' => w'.cell? ⟨p, 0, none⟩ = some (.int .i64 z) ∧ w'.cell? ⟨p, 1, none⟩ = some (.int .i64 0) ∧ w'.cell? ⟨p, 2, none⟩ = some (.slice A N N))
      (first | exact E4.out.three | exact E3.out.three | exact E2.out.three)
      (first
        | (go_at_call 15; refine (kinds_any _).mono ?_; rintro e w3 ⟨A3, rfl, h3, hk3⟩; have E3 := Lib.hid (E2.out.drew.next h3); have B3 := Lib.hid (Below.step B2.out.drew h3 (Nat.le_refl _)); have K3 := Lib.hid hk3; clear h3 hk3)
        | (go_at_call 19; refine (wfits_any A3 A [2, 2, 3] 3 3 z 0 N N _ rfl three_le (small_le HNN.out) fl_small K3.out hz1).mono ?_; rintro e w4 ⟨rfl, h4⟩; have E4 := Lib.hid (E3.out.next h4); have B4 := Lib.hid (Below.step B3.out h4 (Nat.le_refl _)); clear h4))
    clear E2 B2 E3 B3 K3
    have q2 := E4.out.three.2.2
    clear E4
    by_cases ho : z < 0 ∨ 2 < z
    · rw [fitE_out (fl := [2, 2, 3]) (n := N) (K := z) (by simp; omega)]
      have d5 : ((5 : Int) == 5) = true := by simp
      rcases ho with ho | ho
      · go_wp2
        go_ret
        exact ⟨rfl, B4.out⟩
      · go_wp2
        go_ret
        exact ⟨rfl, B4.out⟩
    · obtain ⟨k, m, hkz, hk3, hfm, hmm⟩ := three_cases z (by omega) (by omega)
      rw [hfm N]
      subst hkz
      clear hfm ho
      have hc : (w4.alloc (.cells #[.int .i64 2, .int .i64 2, .int .i64 3] 3)).cell? ⟨w4.heap.size, k, none⟩ = some (.int .i64 (m : Int)) := (Has.cell (has_new w4 _ _) k).trans hmm
      clear hmm
      have q3 : (w4.alloc (.cells #[.int .i64 2, .int .i64 2, .int .i64 3] 3)).cell? ⟨p, 2, none⟩ = some (.slice A N N) := (World.cell?_alloc_lt _ _ _ (World.block_lt_of_cell? _ _ q2)).trans q2
      by_cases hmn : m = N
      · subst hmn
        rw [if_pos rfl]
        have d1 : ((m : Int) == (m : Int)) = true := by simp
        go_wp2
        go_ret
        exact ⟨rfl, B4.out.alloc B4.out.size _⟩
      · rw [if_neg hmn]
        have d1 : ((N : Int) == (m : Int)) = false := by simp; omega
        go_wp2
        go_ret
        exact ⟨rfl, B4.out.alloc B4.out.size _⟩
end Go.Proofs.Ytcmgkmllmdgcbaa
