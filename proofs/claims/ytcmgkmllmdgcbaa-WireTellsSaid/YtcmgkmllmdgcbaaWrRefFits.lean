/- What the document's own Fits of chapter 5 returns: the same function as the program's. -/
import Derived.Test.YtcmgkmllmdgcbaaWrRefPut2
namespace Go.Proofs.Ytcmgkmllmdgcbaa
open Go.RowKit
set_option linter.unusedVariables false

set_option maxHeartbeats 1600000 in
theorem rfits_any (A B : Option Addr) (fl : List Nat) (N C : Nat) (K T : Int) (n c : Nat) (w : World) (hl : fl.length = N) (hN : N ≤ maxLen) (hn : n ≤ maxLen) (hfm : ∀ (i m : Nat), fl[i]? = some m → m ≤ maxLen) (hk : KLies w A fl) (hK1 : K ≤ 9223372036854775807) :
    Calls Try.prog 20 #[.slice A N C, ev K T B n c] w fun e w' => e = .returned (.int .i64 (fitE fl K n)) ∧ Below w.heap.size w w' := by
  unfold maxLen at hN hn
  have B0 := (Below.refl w.heap.size w).alloc (Nat.le_refl _) (.cells #[.int .i64 K, .int .i64 T, .slice B n c] 32)
  have X1 := Lib.hid (has_new w #[.int .i64 K, .int .i64 T, .slice B n c] 32)
  have XB := Lib.hid B0
  have HKL := Lib.hid (hk.below B0)
  have HL := Lib.hid hl
  have HFM := Lib.hid hfm
  clear B0 hk hl hfm
  unfold ev
  by_cases h0 : K < 0 ∨ (N : Int) ≤ K
  · have HN : Hid (fitE fl K n = 5) := Lib.hid (fitE_out (by rw [HL.out]; exact h0))
    by_cases hneg : K < 0
    · have d1 : decide (K < 0) = true := by simpa using hneg
      clear h0
      go_enter Try.func20, Try.ntmps20
      go_wp2
      go_ret
      exact ⟨by rw [HN.out]; rfl, XB.out⟩
    · have d1 : decide (K < 0) = false := by simpa using hneg
      have hge : (N : Int) ≤ K := by omega
      have d2 : decide ((N : Int) ≤ K) = true := by simpa using hge
      clear h0
      go_enter Try.func20, Try.ntmps20
      go_wp2
      go_ret
      exact ⟨by rw [HN.out]; rfl, XB.out⟩
  · obtain ⟨k, rfl⟩ : ∃ k : Nat, K = k := ⟨K.toNat, by omega⟩
    have hkN : k < N := by omega
    have hkf : k < fl.length := by rw [HL.out]; exact hkN
    obtain ⟨m, hm⟩ : ∃ m, fl[k]? = some m := ⟨_, List.getElem?_eq_getElem hkf⟩
    obtain ⟨b, off, F, cf, rfl, hc⟩ := HKL.out k m hm
    have hmm := HFM.out k m hm
    unfold maxLen at hmm
    have HF := Lib.hid (fitE_in (n := n) hm)
    clear h0 hkf hm HKL HFM
    have k0 := X1.out.three.1
    have k2 := X1.out.three.2.2
    have d1 : decide ((k : Int) < 0) = false := by simp
    have d2 : decide ((N : Int) ≤ (k : Int)) = false := by simp; omega
    by_cases hmn : m = n
    · subst hmn
      have HN : Hid (fitE fl k m = 0) := Lib.hid (by rw [HF.out, if_pos rfl])
      have hdec : ((m : Int) != (m : Int)) = false := by simp
      go_enter Try.func20, Try.ntmps20
      go_wp2_with fail
      generalize w.alloc (.cells #[.int .i64 (k : Int), .int .i64 T, .slice B m c] 32) = w1 at *
      go_quiet (fail)
      go_wp2
      go_ret
      exact ⟨by rw [HN.out]; rfl, below_drewN XB.out _⟩
    · have HN : Hid (fitE fl k n = 7) := Lib.hid (by rw [HF.out, if_neg hmn])
      have hdec : ((n : Int) != (m : Int)) = true := by simp; omega
      go_enter Try.func20, Try.ntmps20
      go_wp2_with fail
      generalize w.alloc (.cells #[.int .i64 (k : Int), .int .i64 T, .slice B n c] 32) = w1 at *
      go_quiet (fail)
      go_wp2
      go_ret
      exact ⟨by rw [HN.out]; rfl, below_drewN XB.out _⟩
end Go.Proofs.Ytcmgkmllmdgcbaa
