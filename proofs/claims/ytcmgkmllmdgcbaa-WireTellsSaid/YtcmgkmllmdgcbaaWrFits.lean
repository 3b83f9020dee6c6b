/- What Fits of package wire tells, as a contract: of kinds only how many fields each has is known. -/
import Derived.Test.YtcmgkmllmdgcbaaWrSame
import Derived.StillTailTactics
namespace Go.Proofs.Ytcmgkmllmdgcbaa
open Go.RowKit
set_option linter.unusedVariables false

/-- From A on lie kinds, of which the i-th has so many fields. -/
def KLies (w : World) (A : Option Addr) (fl : List Nat) : Prop := ∀ (i m : Nat), fl[i]? = some m → ∃ b off F c, A = some ⟨b, off, none⟩ ∧ w.cell? ⟨b, off + i * 2 + 1, none⟩ = some (.slice F m c)
theorem KLies.below {w w' : World} {A : Option Addr} {fl : List Nat} (h : KLies w A fl) (hb : Below w.heap.size w w') : KLies w' A fl := fun i m hi => by
  obtain ⟨b, off, F, c, rfl, hc⟩ := h i m hi
  exact ⟨b, off, F, c, rfl, (hb.cell (World.block_lt_of_cell? _ _ hc)).trans hc⟩
/-- What Fits tells. -/
def fitE (fl : List Nat) (K : Int) (n : Nat) : Int := if 0 ≤ K ∧ K < fl.length then (if fl.getD K.toNat 0 = n then 0 else 7) else 5
theorem fitE_out {fl : List Nat} {K : Int} {n : Nat} (h : K < 0 ∨ fl.length ≤ K) : fitE fl K n = 5 := by unfold fitE; rw [if_neg (by omega)]
theorem fitE_in {fl : List Nat} {k n m : Nat} (h : fl[k]? = some m) : fitE fl k n = if m = n then 0 else 7 := by
  have hl : k < fl.length := by
    rcases Nat.lt_or_ge k fl.length with h1 | h1
    · exact h1
    · rw [List.getElem?_eq_none h1] at h; cases h
  unfold fitE; rw [if_pos (by omega), List.getD_eq_getElem?_getD, Int.toNat_natCast, h]; rfl

set_option maxHeartbeats 1600000 in
theorem wfits_any (A B : Option Addr) (fl : List Nat) (N C : Nat) (K T : Int) (n c : Nat) (w : World) (hl : fl.length = N) (hN : N ≤ maxLen) (hn : n ≤ maxLen) (hfm : ∀ (i m : Nat), fl[i]? = some m → m ≤ maxLen) (hk : KLies w A fl)
    (hK1 : K ≤ 9223372036854775807) :
    Calls Try.prog 19 #[.slice A N C, ev K T B n c] w fun e w' => e = .returned (.int .i64 (fitE fl K n)) ∧ Below w.heap.size w w' := by
  have hmf : ∀ (fn : Fn) (first cap : Array Value) (w : World), (Instr.makeFunc fn first cap).run Try.prog w = .ok (.func fn first cap) w := fun _ _ _ _ => rfl
  unfold maxLen at hN hn
  have T0 := two_new w #[.int .i64 K, .int .i64 T, .slice B n c] #[.int .i64 0] 24 35
  have X1 := Lib.hid T0.1
  have X2 := Lib.hid T0.2.1
  have XB := Lib.hid T0.2.2
  have HKL := Lib.hid (hk.below T0.2.2)
  have HL := Lib.hid hl
  have HFM := Lib.hid hfm
  clear T0 hk hl hfm
  unfold ev
  by_cases h0 : K < 0 ∨ (N : Int) ≤ K
  · have HN : Hid (fitE fl K n = 5) := Lib.hid (fitE_out (by rw [HL.out]; exact h0))
    have HTest : Hid (K < 0 ∨ (0 ≤ K ∧ (N : Int) ≤ K)) := Lib.hid (by omega)
    clear h0
    go_enter_defers Try.func19, Try.ntmps19
    rcases HTest.out with hneg | ⟨hpos, hbig⟩
    · go_wp2_with fail
      generalize (w.alloc (.cells #[.int .i64 K, .int .i64 T, .slice B n c] 24)).alloc (.cells #[.int .i64 0] 35) = w1 at *
      refine (must_no 5 _).mono ?_
      rintro e w2 ⟨rfl, rfl⟩
      go_wp2
      refine leaves_cons (f := 29) (args := #[.pointer (some ⟨w.heap.size + 1, 0, none⟩)]) (by simp [thrown]) (by simp [go_sem]) ?_
      refine (fcatch_panicking ⟨w.heap.size + 1, 0, none⟩ 0 5 [] _ (X2.out.cell 0) (X2.out.free 0)).mono ?_
      rintro e u' w'' ⟨rfl, rfl, rfl⟩
      have Y0 := (X2.out.put 0 (.int .i64 5)).cell 0
      simp at Y0
      simp [Leaves, settle, results, Try.results19, go_sem, Y0]
      exact ⟨HN.out.symm, XB.out.setCell (p := ⟨w.heap.size + 1, 0, none⟩) (by simp) _⟩
    · have hdec : decide (K < (N : Int)) = false := by simp; omega
      go_wp2_with fail
      generalize (w.alloc (.cells #[.int .i64 K, .int .i64 T, .slice B n c] 24)).alloc (.cells #[.int .i64 0] 35) = w1 at *
      refine (must_no 5 _).mono ?_
      rintro e w2 ⟨rfl, rfl⟩
      go_wp2
      refine leaves_cons (f := 29) (args := #[.pointer (some ⟨w.heap.size + 1, 0, none⟩)]) (by simp [thrown]) (by simp [go_sem]) ?_
      refine (fcatch_panicking ⟨w.heap.size + 1, 0, none⟩ 0 5 [] _ (X2.out.cell 0) (X2.out.free 0)).mono ?_
      rintro e u' w'' ⟨rfl, rfl, rfl⟩
      have Y0 := (X2.out.put 0 (.int .i64 5)).cell 0
      simp at Y0
      simp [Leaves, settle, results, Try.results19, go_sem, Y0]
      exact ⟨HN.out.symm, XB.out.setCell (p := ⟨w.heap.size + 1, 0, none⟩) (by simp) _⟩
  · obtain ⟨k, rfl⟩ : ∃ k : Nat, K = k := ⟨K.toNat, by omega⟩
    have hkN : k < N := by omega
    have hkf : k < fl.length := by rw [HL.out]; exact hkN
    obtain ⟨m, hm⟩ : ∃ m, fl[k]? = some m := ⟨_, List.getElem?_eq_getElem hkf⟩
    obtain ⟨b, off, F, cf, rfl, hc⟩ := HKL.out k m hm
    have hmm := HFM.out k m hm
    unfold maxLen at hmm
    have HF := Lib.hid (fitE_in (n := n) hm)
    clear h0 hkf hm HKL HFM
    have k0 := X1.out.three.1
    have k2 := X1.out.three.2.2
    by_cases hmn : m = n
    · subst hmn
      have HN : Hid (fitE fl k m = 0) := Lib.hid (by rw [HF.out, if_pos rfl])
      have hdec : ((m : Int) == (m : Int)) = true := by simp
      go_enter_defers Try.func19, Try.ntmps19
      go_wp2_with fail
      refine (must_yes 5 _).mono ?_
      rintro e w2 ⟨rfl, rfl⟩
      generalize (w.alloc (.cells #[.int .i64 k, .int .i64 T, .slice B m c] 24)).alloc (.cells #[.int .i64 0] 35) = w1 at *
      go_wp2_with fail
      go_still_tail 11, (by kernel_rfl)
      change wpList _ _ _ _ _ w1.drew
      have X3 := Lib.hid X2.out.drew
      have XB3 := Lib.hid XB.out.drew
      clear X1 X2 XB k0 k2 hc
      generalize w1.drew = w3 at *
      have c0 := X3.out.cell 0
      have f0 := X3.out.free 0
      simp at c0
      go_wp2_with fail
      refine (must_yes 7 _).mono ?_
      rintro e w2 ⟨rfl, rfl⟩
      go_wp2
      refine leaves_cons (f := 29) (args := #[.pointer (some ⟨w.heap.size + 1, 0, none⟩)]) (by simp) (by simp [go_sem]) ?_
      refine (fcatch_idle ⟨w.heap.size + 1, 0, none⟩ _).mono ?_
      rintro e u' w'' ⟨rfl, rfl, rfl⟩
      have Y0 := (X3.out.put 0 (.int .i64 0)).cell 0
      simp at Y0
      simp [Leaves, settle, results, Try.results19, go_sem, Y0]
      exact ⟨HN.out.symm, XB3.out.setCell (p := ⟨w.heap.size + 1, 0, none⟩) (by simp) _⟩
    · have HN : Hid (fitE fl k n = 7) := Lib.hid (by rw [HF.out, if_neg hmn])
      have hdec : ((n : Int) == (m : Int)) = false := by simp; omega
      go_enter_defers Try.func19, Try.ntmps19
      go_wp2_with fail
      refine (must_yes 5 _).mono ?_
      rintro e w2 ⟨rfl, rfl⟩
      generalize (w.alloc (.cells #[.int .i64 k, .int .i64 T, .slice B n c] 24)).alloc (.cells #[.int .i64 0] 35) = w1 at *
      go_wp2_with fail
      go_still_tail 11, (by kernel_rfl)
      change wpList _ _ _ _ _ w1.drew
      have X3 := Lib.hid X2.out.drew
      have XB3 := Lib.hid XB.out.drew
      clear X1 X2 XB k0 k2 hc
      generalize w1.drew = w3 at *
      go_wp2_with fail
      refine (must_no 7 _).mono ?_
      rintro e w2 ⟨rfl, rfl⟩
      go_wp2
      refine leaves_cons (f := 29) (args := #[.pointer (some ⟨w.heap.size + 1, 0, none⟩)]) (by simp [thrown]) (by simp [go_sem]) ?_
      refine (fcatch_panicking ⟨w.heap.size + 1, 0, none⟩ 0 7 [] _ (X3.out.cell 0) (X3.out.free 0)).mono ?_
      rintro e u' w'' ⟨rfl, rfl, rfl⟩
      have Y0 := (X3.out.put 0 (.int .i64 7)).cell 0
      simp at Y0
      simp [Leaves, settle, results, Try.results19, go_sem, Y0]
      exact ⟨HN.out.symm, XB3.out.setCell (p := ⟨w.heap.size + 1, 0, none⟩) (by simp) _⟩
end Go.Proofs.Ytcmgkmllmdgcbaa
