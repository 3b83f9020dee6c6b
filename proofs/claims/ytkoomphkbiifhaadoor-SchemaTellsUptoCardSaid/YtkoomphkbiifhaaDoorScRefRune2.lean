/- The reference's rune, whatever the text. -/
import Derived.Test.YtkoomphkbiifhaaDoorScRefRune
namespace Go.Proofs.YtkoomphkbiifhaaDoor
open Go.RowKit
set_option linter.unusedVariables false

set_option maxHeartbeats 4000000 in
set_option maxRecDepth 100000 in
theorem d2 (n n0 n1 n2 n3 : Nat) (h0 : 192 ≤ n0) (h1 : n0 < 224) (b1 : n1 < 256) : Lib.decodeN n n0 n1 n2 n3 = if 2 ≤ n ∧ 128 ≤ n1 ∧ n1 ≤ 191 ∧ 128 ≤ (n0 - 192) * 64 + (n1 - 128) then ((n0 - 192) * 64 + (n1 - 128), 2) else (65533, 1) := by
  unfold Lib.decodeN
  repeat' split
  all_goals first | rfl | (exfalso; omega) | (apply Prod.ext <;> simp only <;> omega)
set_option maxHeartbeats 4000000 in
set_option maxRecDepth 100000 in
theorem d3 (n n0 n1 n2 n3 : Nat) (h0 : 224 ≤ n0) (h1 : n0 < 240) (b1 : n1 < 256) (b2 : n2 < 256) : Lib.decodeN n n0 n1 n2 n3 = if 3 ≤ n ∧ (128 ≤ n1 ∧ n1 ≤ 191) ∧ (128 ≤ n2 ∧ n2 ≤ 191) ∧ 2048 ≤ ((n0 - 224) * 64 + (n1 - 128)) * 64 + (n2 - 128) ∧ ¬ (55296 ≤ ((n0 - 224) * 64 + (n1 - 128)) * 64 + (n2 - 128) ∧ ((n0 - 224) * 64 + (n1 - 128)) * 64 + (n2 - 128) ≤ 57343) then (((n0 - 224) * 64 + (n1 - 128)) * 64 + (n2 - 128), 3) else (65533, 1) := by
  unfold Lib.decodeN
  repeat' split
  all_goals first | rfl | (exfalso; omega) | (apply Prod.ext <;> simp only <;> omega)
set_option maxHeartbeats 4000000 in
set_option maxRecDepth 100000 in
theorem d4 (n n0 n1 n2 n3 : Nat) (h0 : 240 ≤ n0) (h1 : n0 < 248) (b1 : n1 < 256) (b2 : n2 < 256) (b3 : n3 < 256) : Lib.decodeN n n0 n1 n2 n3 = if 4 ≤ n ∧ (128 ≤ n1 ∧ n1 ≤ 191) ∧ (128 ≤ n2 ∧ n2 ≤ 191) ∧ (128 ≤ n3 ∧ n3 ≤ 191) ∧ 65536 ≤ (((n0 - 240) * 64 + (n1 - 128)) * 64 + (n2 - 128)) * 64 + (n3 - 128) ∧ (((n0 - 240) * 64 + (n1 - 128)) * 64 + (n2 - 128)) * 64 + (n3 - 128) ≤ 1114111 then ((((n0 - 240) * 64 + (n1 - 128)) * 64 + (n2 - 128)) * 64 + (n3 - 128), 4) else (65533, 1) := by
  unfold Lib.decodeN
  repeat' split
  all_goals first | rfl | (exfalso; omega) | (apply Prod.ext <;> simp only <;> omega)
theorem d0 (n n0 n1 n2 n3 : Nat) (h : 128 ≤ n0 ∧ n0 < 192 ∨ 248 ≤ n0) (b0 : n0 < 256) : Lib.decodeN n n0 n1 n2 n3 = (65533, 1) := by
  unfold Lib.decodeN
  repeat' split
  all_goals first | rfl | (exfalso; omega)
theorem ok2 (bs : Nat → Nat) : okc bs 2 ↔ 128 ≤ bs 1 ∧ bs 1 ≤ 191 := ⟨fun c => c 1 (by omega) (by omega), fun c j j1 j2 => by
  obtain rfl : j = 1 := by omega
  exact c⟩
theorem ok3 (bs : Nat → Nat) : okc bs 3 ↔ (128 ≤ bs 1 ∧ bs 1 ≤ 191) ∧ 128 ≤ bs 2 ∧ bs 2 ≤ 191 := ⟨fun c => ⟨c 1 (by omega) (by omega), c 2 (by omega) (by omega)⟩, fun c j j1 j2 => by
  rcases (by omega : j = 1 ∨ j = 2) with rfl | rfl
  · exact c.1
  · exact c.2⟩
theorem ok4 (bs : Nat → Nat) : okc bs 4 ↔ (128 ≤ bs 1 ∧ bs 1 ≤ 191) ∧ (128 ≤ bs 2 ∧ bs 2 ≤ 191) ∧ 128 ≤ bs 3 ∧ bs 3 ≤ 191 := ⟨fun c => ⟨c 1 (by omega) (by omega), c 2 (by omega) (by omega), c 3 (by omega) (by omega)⟩, fun c j j1 j2 => by
  rcases (by omega : j = 1 ∨ j = 2 ∨ j = 3) with rfl | rfl | rfl
  · exact c.1
  · exact c.2.1
  · exact c.2.2⟩
def RuneIs (l : Nm) (w : World) (e : Ending) (w' : World) : Prop := w = w' ∧ e = .returned (.tuple #[.int .i64 ((runeR l).1 : Int), .int .i64 ((runeR l).2 : Int)])
theorem runeR_bad {l : Nm} (h : Lib.decodeL l = (65533, 1)) : runeR l = (0, 0) := by unfold runeR; rw [if_pos (.inr (by rw [h]; exact ⟨rfl, rfl⟩))]
theorem runeR_ok {l : Nm} {r n : Nat} (hl : l ≠ []) (h : Lib.decodeL l = (r, n)) (hn : r = 65533 → n ≠ 1) : runeR l = (r, n) := by
  unfold runeR
  rw [if_neg, h]
  rintro (h0 | h0)
  · exact hl h0
  · rw [h] at h0; exact hn h0.1 h0.2
theorem rune_any (l : Nm) (w : World) (hl : l.length ≤ 9223372036854775807) : Calls Tryd.prog 37 #[.string (str l)] w (RuneIs l w) := by
  by_cases h : l = []
  · subst h
    refine (rune_none w).mono ?_
    rintro e w' ⟨rfl, rfl⟩
    exact ⟨rfl, rfl⟩
  have hd := Lib.decodeL_N l
  have b0 : (l.getD 0 0).toNat < 256 := UInt8.toNat_lt _
  have b1 : (l.getD 1 0).toNat < 256 := UInt8.toNat_lt _
  have b2 : (l.getD 2 0).toNat < 256 := UInt8.toNat_lt _
  have b3 : (l.getD 3 0).toNat < 256 := UInt8.toNat_lt _
  by_cases h128 : (l.getD 0 0).toNat < 128
  · refine (rune_ascii l w h h128 hl).mono ?_
    rintro e w' ⟨rfl, rfl⟩
    have hr : runeR l = ((l.getD 0 0).toNat, 1) := runeR_ok h (by rw [hd]; unfold Lib.decodeN; rw [if_pos h128]) (by omega)
    refine ⟨rfl, ?_⟩
    rw [hr]
    rfl
  by_cases hlone : 128 ≤ (l.getD 0 0).toNat ∧ (l.getD 0 0).toNat < 192 ∨ 248 ≤ (l.getD 0 0).toNat
  · refine (rune_lone l w h hlone hl).mono ?_
    rintro e w' ⟨rfl, rfl⟩
    refine ⟨rfl, ?_⟩
    rw [runeR_bad (by rw [hd, d0 _ _ _ _ _ hlone b0])]
    rfl
  obtain ⟨bs, hbs⟩ : ∃ bs : Nat → Nat, ∀ j, bs j = (l.getD j 0).toNat := ⟨_, fun _ => rfl⟩
  rw [← hbs] at h128 hlone b0 b1 b2 b3
  rw [← hbs, ← hbs, ← hbs, ← hbs] at hd
  have fin : ∀ (N lo least : Nat), (N = 2 ∧ lo = 192 ∧ least = 128 ∧ bs 0 < 224) ∨ (N = 3 ∧ lo = 224 ∧ least = 2048 ∧ bs 0 < 240) ∨ (N = 4 ∧ lo = 240 ∧ least = 65536 ∧ bs 0 < 248) → lo ≤ bs 0 →
      (RuneC l.length N lo least bs → ∃ r : Nat, (r : Int) = vr lo bs N ∧ runeR l = (r, N)) → (¬ RuneC l.length N lo least bs → runeR l = (0, 0)) → Calls Tryd.prog 37 #[.string (str l)] w (RuneIs l w) := by
    intro N lo least hc h0 hy hn
    refine (rune_multi l w N lo least bs hbs hc h h0 hl).mono ?_
    rintro e w' ⟨rfl, p1, p2⟩
    refine ⟨rfl, ?_⟩
    by_cases hC : RuneC l.length N lo least bs
    · obtain ⟨r, hr, hrr⟩ := hy hC
      rw [p1 hC, hrr, ← hr]
    · rw [p2 hC, hn hC]; rfl
  have e1 : ∀ lo, vr lo bs 1 = (bs 0 : Int) - lo := fun _ => rfl
  have e2 : ∀ lo, vr lo bs 2 = vr lo bs 1 * 64 + (bs 1 : Int) - 128 := fun lo => vr_succ lo bs (k := 1) (by omega)
  have e3 : ∀ lo, vr lo bs 3 = vr lo bs 2 * 64 + (bs 2 : Int) - 128 := fun lo => vr_succ lo bs (k := 2) (by omega)
  have e4 : ∀ lo, vr lo bs 4 = vr lo bs 3 * 64 + (bs 3 : Int) - 128 := fun lo => vr_succ lo bs (k := 3) (by omega)
  by_cases h224 : bs 0 < 224
  · have f1 := e1 192
    have f2 := e2 192
    refine fin 2 192 128 (.inl ⟨rfl, rfl, rfl, h224⟩) (by omega) (fun c => ?_) fun c => ?_
    · obtain ⟨c1, c2, c3, _⟩ := c
      rw [ok2] at c2
      rw [d2 _ _ _ _ _ (by omega) h224 b1, if_pos (by omega)] at hd
      exact ⟨_, by omega, runeR_ok h hd (by omega)⟩
    · rw [d2 _ _ _ _ _ (by omega) h224 b1, if_neg (fun hh => c ⟨by omega, (ok2 bs).2 (by omega), by omega, by omega, by omega⟩)] at hd
      exact runeR_bad hd
  by_cases h240 : bs 0 < 240
  · have f1 := e1 224
    have f2 := e2 224
    have f3 := e3 224
    refine fin 3 224 2048 (.inr (.inl ⟨rfl, rfl, rfl, h240⟩)) (by omega) (fun c => ?_) fun c => ?_
    · obtain ⟨c1, c2, c3, c4, c5⟩ := c
      rw [ok3] at c2
      rw [d3 _ _ _ _ _ (by omega) h240 b1 b2, if_pos (by omega)] at hd
      exact ⟨_, by omega, runeR_ok h hd (by omega)⟩
    · rw [d3 _ _ _ _ _ (by omega) h240 b1 b2, if_neg (fun hh => c ⟨by omega, (ok3 bs).2 (by omega), by omega, by omega, by omega⟩)] at hd
      exact runeR_bad hd
  · have f1 := e1 240
    have f2 := e2 240
    have f3 := e3 240
    have f4 := e4 240
    refine fin 4 240 65536 (.inr (.inr ⟨rfl, rfl, rfl, by omega⟩)) (by omega) (fun c => ?_) fun c => ?_
    · obtain ⟨c1, c2, c3, c4, c5⟩ := c
      rw [ok4] at c2
      rw [d4 _ _ _ _ _ (by omega) (by omega) b1 b2 b3, if_pos (by omega)] at hd
      exact ⟨_, by omega, runeR_ok h hd (by omega)⟩
    · rw [d4 _ _ _ _ _ (by omega) (by omega) b1 b2 b3, if_neg (fun hh => c ⟨by omega, (ok4 bs).2 (by omega), by omega, by omega, by omega⟩)] at hd
      exact runeR_bad hd
end Go.Proofs.YtkoomphkbiifhaaDoor
