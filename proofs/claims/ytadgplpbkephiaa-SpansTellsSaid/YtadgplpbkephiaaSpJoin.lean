/- Two neighbours made one; a number added. -/
import Derived.Test.YtadgplpbkephiaaSpPut
import Derived.Test.YtadgplpbkephiaaSpNear
import Derived.Test.YtadgplpbkephiaaSpMeets
import Derived.Test.YtadgplpbkephiaaSpRight
namespace Go.Proofs.Ytadgplpbkephiaa
open Go.RowKit
set_option linter.unusedVariables false

set_option maxHeartbeats 1000000 in
theorem join_any {w : World} {A : Option Addr} {n c : Nat} {S : List Sp} (h : Sl w A n c S) (i : Nat) (hi : i + 1 < n) (hn5 : n ≤ 5) :
    Calls Try.prog 26 #[.slice A n c, .int .i64 i] w fun e w' => ∃ A d, e = .returned (.slice A (n - 1) d) ∧ Sl w' A (n - 1) d (joinS S i) ∧ Below w.heap.size w w' := by
  have hn := h.le
  have hm := h.max
  have hl := h.len
  unfold maxLen at hm
  obtain ⟨b, off, rfl, hg, hc⟩ := h.all (by omega)
  obtain ⟨k, hk⟩ : ∃ k, i + 1 = k := ⟨_, rfl⟩
  obtain ⟨q, hq⟩ : ∃ q, i + 2 = q := ⟨_, rfl⟩
  have hJ := joinS_at S i (by omega)
  rw [hk, hq] at hJ
  have c1 := (hc i (by omega)).1
  have c2 := (hc k (by omega)).2
  generalize (sp S i).1 = x at *
  generalize (sp S k).2 = y at *
  obtain ⟨ad, had⟩ : ∃ ad : Addr, (if c = q then some (⟨b, off, none⟩ : Addr) else some ⟨b, off + q * 2, none⟩) = some ad := by split <;> exact ⟨_, rfl⟩
  have hb1 : Below w.heap.size w (w.drew.alloc (.cells #[.int .i64 x, .int .i64 y] 43)) := ((Below.refl _ _).drew).alloc (Nat.le_refl _) _
  have HC := concat_three (w := w.drew.alloc (.cells #[.int .i64 x, .int .i64 y] 43)) ((h.pre i (by omega)).below hb1) (show Sl (w.drew.alloc (.cells #[.int .i64 x, .int .i64 y] 43)) (some ⟨w.heap.size, 0, none⟩) 1 1 [(x, y)] from sl_one w.drew x y) ((h.suf q (by omega) (ad := ad) (fun hlt => by rw [if_neg (by omega)] at had; exact (Option.some.inj had).symm)).below hb1) (by omega) (by omega)
  rw [show S.take i ++ [(x, y)] ++ S.drop q = joinS S i by rw [hJ]; simp, show i + 1 + (n - q) = n - 1 by omega] at HC
  rw [show (w.drew.alloc (.cells #[.int .i64 x, .int .i64 y] 43)).heap.size = w.heap.size + 1 by simp] at HC
  have HCC := Lib.hid HC
  have HB1 := Lib.hid hb1
  have hkn : k < n := by omega
  have hqn : q ≤ n := by omega
  have hin : i < n := by omega
  have hic : i ≤ c := by omega
  have a1 : IntKind.i64.wrap ((i : Int) + 1) = (k : Int) := by rw [IntWalk.i64_in _ (by omega)]; omega
  have a2 : (i : Int) + 1 = (k : Int) := by omega
  have a3 : IntKind.i64.wrap (k : Int) = (k : Int) := IntWalk.i64_in _ (by omega)
  have a4 : IntKind.i64.wrap ((i : Int) + 2) = (q : Int) := by rw [IntWalk.i64_in _ (by omega)]; omega
  have a5 : (i : Int) + 2 = (q : Int) := by omega
  have a6 : IntKind.i64.wrap (q : Int) = (q : Int) := IntWalk.i64_in _ (by omega)
  clear HC hb1 h hJ hc hk hq hi
  go_enter Try.func26, Try.ntmps26
  go_wp2_with fail
  go_region_law (go_simp; go_at_call 29; refine HCC.out.mono ?_; rintro e w2 ⟨D, d, rfl, hsl, hb2⟩)
  all_goals
    have HF := Lib.hid (And.intro hsl (HB1.out.trans (hb2.mono (Nat.le_succ _))))
    clear hsl hb2
    go_wp2
    go_ret
    exact ⟨D, d, rfl, HF.out⟩
end Go.Proofs.Ytadgplpbkephiaa
