/- A number put in its place. -/
import Derived.Test.YtadgplpbkephiaaSpCat
namespace Go.Proofs.Ytadgplpbkephiaa
open Go.RowKit
set_option linter.unusedVariables false

/-- Where n stands. -/
def pos : List Sp → Int → Nat
  | [], _ => 0
  | p :: r, n => if p.1 < n then pos r n + 1 else 0
theorem pos_le (n : Int) : ∀ S : List Sp, pos S n ≤ S.length
  | [] => Nat.le_refl _
  | p :: r => by
    unfold pos
    split
    · have := pos_le n r; simp; omega
    · simp
theorem pos_lt (n : Int) : ∀ (S : List Sp) (j : Nat), j < pos S n → (sp S j).1 < n
  | [], j, h => by simp [pos] at h
  | p :: r, j, h => by
    unfold pos at h
    split at h
    · match j with
      | 0 => assumption
      | j + 1 => exact pos_lt n r j (by omega)
    · omega
theorem pos_at (n : Int) : ∀ S : List Sp, pos S n < S.length → ¬ (sp S (pos S n)).1 < n
  | [], h => by simp at h
  | p :: r, h => by
    unfold pos at h ⊢
    split
    · rename_i h1
      rw [if_pos h1] at h
      exact pos_at n r (by simpa using h)
    · rename_i h1; exact h1
theorem putS_pos (S : List Sp) (n : Int) : putS S n = S.take (pos S n) ++ (n, n) :: S.drop (pos S n) := putS_at n S (pos S n) (pos_le n S) (pos_lt n S) (pos_at n S)
/-- Three slices that are to be one. -/
def cat3 (S T R : List Sp) : Nat → List Sp
  | 0 => []
  | 1 => S
  | 2 => S ++ T
  | _ => S ++ T ++ R
theorem concat_three {w : World} {S T R : List Sp} {A B C : Option Addr} {a b c x y z : Nat} (h1 : Sl w A a x S) (h2 : Sl w B b y T) (h3 : Sl w C c z R) (h0 : 0 < b) (hl : a + b + c ≤ 1000) :
    Calls Try.prog 29 #[.slice (some ⟨w.heap.size, 0, none⟩) 3 3] (w.alloc (.cells #[.slice A a x, .slice B b y, .slice C c z] 22)) fun e w' =>
      ∃ D d, e = .returned (.slice D (a + b + c) d) ∧ Sl w' D (a + b + c) d (S ++ T ++ R) ∧ Below w.heap.size w w' := by
  have l1 := h1.len
  have l2 := h2.len
  have l3 := h3.len
  have hb : Below w.heap.size w (w.alloc (.cells #[.slice A a x, .slice B b y, .slice C c z] 22)) := (Below.refl _ _).alloc (Nat.le_refl _) _
  have hq : Has (w.alloc (.cells #[.slice A a x, .slice B b y, .slice C c z] 22)) w.heap.size 22 #[.slice A a x, .slice B b y, .slice C c z] := heap_alloc_new w _
  have hlen : (cat3 S T R 3).length = a + b + c := by show (S ++ T ++ R).length = _; simp; omega
  have := concat_any (w := w.alloc (.cells #[.slice A a x, .slice B b y, .slice C c z] 22)) (g := w.heap.size) (k := 3) (cat := cat3 S T R) rfl (by omega) (by rw [hlen]; omega) (by rw [hlen]; omega) (fun j hj => by
    match j, hj with
    | 0, _ => exact ⟨A, a, x, S, hq.cell 0, h1.below hb, rfl⟩
    | 1, _ => exact ⟨B, b, y, T, hq.cell 1, h2.below hb, rfl⟩
    | 2, _ => exact ⟨C, c, z, R, hq.cell 2, h3.below hb, rfl⟩)
  rw [hlen] at this
  refine this.mono ?_
  rintro e w' ⟨D, d, rfl, hs, hb'⟩
  exact ⟨D, d, rfl, hs, hb.trans (hb'.mono hb.size)⟩
set_option maxHeartbeats 1000000 in
theorem put_at {w : World} {b off n c : Nat} {S : List Sp} (h : Sl w (some ⟨b, off, none⟩) n c S) (v : Int) (hn5 : n ≤ 5) :
    Calls Try.prog 25 #[.slice (some ⟨b, off, none⟩) n c, .int .i64 v] w fun e w' => ∃ A d, e = .returned (.slice A (n + 1) d) ∧ Sl w' A (n + 1) d (putS S v) ∧ Below w.heap.size w w' := by
  have hn := h.le
  have hm := h.max
  have hl := h.len
  unfold maxLen at hm
  obtain ⟨i, hi⟩ : ∃ i, pos S v = i := ⟨_, rfl⟩
  have p1 := pos_le v S
  have p2 := pos_lt v S
  have p3 := pos_at v S
  have p4 := putS_pos S v
  rw [hi] at p1 p2 p3 p4
  rw [hl] at p1 p3
  have hic : i ≤ c := by omega
  obtain ⟨ad, had⟩ : ∃ ad : Addr, (if c = i then some (⟨b, off, none⟩ : Addr) else some ⟨b, off + i * 2, none⟩) = some ad := by split <;> exact ⟨_, rfl⟩
  have hb1 : Below w.heap.size w (w.drew.alloc (.cells #[.int .i64 v, .int .i64 v] 43)) := ((Below.refl _ _).drew).alloc (Nat.le_refl _) _
  have HC := concat_three (w := w.drew.alloc (.cells #[.int .i64 v, .int .i64 v] 43)) ((h.pre i p1).below hb1) (show Sl (w.drew.alloc (.cells #[.int .i64 v, .int .i64 v] 43)) (some ⟨w.heap.size, 0, none⟩) 1 1 [(v, v)] from sl_one w.drew v v) ((h.suf i p1 (ad := ad) (fun hlt => by rw [if_neg (by omega)] at had; exact (Option.some.inj had).symm)).below hb1) (by omega) (by omega)
  rw [show S.take i ++ [(v, v)] ++ S.drop i = putS S v by rw [p4]; simp, show i + 1 + (n - i) = n + 1 by omega] at HC
  rw [show (w.drew.alloc (.cells #[.int .i64 v, .int .i64 v] 43)).heap.size = w.heap.size + 1 by simp] at HC
  have HCC := Lib.hid HC
  have HB1 := Lib.hid hb1
  have HS := Lib.hid h
  have HP2 := Lib.hid p2
  have HP3 := Lib.hid p3
  clear HC hb1 h p2 p3 p4 hi
  go_enter Try.func25, Try.ntmps25
  go_wp2
  go_loop [5] (fun iv => ∃ j : Nat, j ≤ i ∧ iv = .int .i64 j) (fun iv => i - (intOf iv).toNat)
  case atStart => exact ⟨0, Nat.zero_le _, rfl⟩
  case round =>
    obtain ⟨j, hj, rfl⟩ := hrel
    by_cases hlt : j < i
    · obtain ⟨b', off', e, hg, c1, -⟩ := HS.out.cel j (by omega)
      cases e
      have hx := HP2.out j hlt
      generalize (sp S j).1 = x at *
      have hjn : j < n := by omega
      go_wp2
      go_round
      case rel => exact ⟨j + 1, by omega, by go_num⟩
      case measure => simp [intOf]; omega
    · obtain rfl : j = i := by omega
      by_cases hjn : j < n
      · obtain ⟨b', off', e, hg, c1, -⟩ := HS.out.cel j hjn
        cases e
        have hx := HP3.out hjn
        generalize (sp S j).1 = x at *
        go_wp2_with fail
        go_region_law (go_simp; go_at_call 29; refine HCC.out.mono ?_; rintro e w2 ⟨D, d, rfl, hsl, hb2⟩)
        all_goals
          have HF := Lib.hid (And.intro hsl (HB1.out.trans (hb2.mono (Nat.le_succ _))))
          clear hsl hb2
          go_wp2
          go_ret
          exact ⟨D, d, rfl, HF.out⟩
      · go_wp2_with fail
        go_region_law (go_simp; go_at_call 29; refine HCC.out.mono ?_; rintro e w2 ⟨D, d, rfl, hsl, hb2⟩)
        all_goals
          have HF := Lib.hid (And.intro hsl (HB1.out.trans (hb2.mono (Nat.le_succ _))))
          clear hsl hb2
          go_wp2
          go_ret
          exact ⟨D, d, rfl, HF.out⟩
set_option maxHeartbeats 1000000 in
theorem put_none {w : World} {A : Option Addr} (v : Int) :
    Calls Try.prog 25 #[.slice A 0 0, .int .i64 v] w fun e w' => ∃ A d, e = .returned (.slice A 1 d) ∧ Sl w' A 1 d [(v, v)] ∧ Below w.heap.size w w' := by
  have hb1 : Below w.heap.size w (w.drew.alloc (.cells #[.int .i64 v, .int .i64 v] 43)) := ((Below.refl _ _).drew).alloc (Nat.le_refl _) _
  have hA : Sl (w.drew.alloc (.cells #[.int .i64 v, .int .i64 v] 43)) A 0 0 [] := ⟨rfl, fun i u hu => by simp [icells] at hu, fun _ => rfl, Nat.le_refl _, Nat.zero_le _, fun h => absurd h (Nat.lt_irrefl _)⟩
  have HC := concat_three (w := w.drew.alloc (.cells #[.int .i64 v, .int .i64 v] 43)) hA (show Sl (w.drew.alloc (.cells #[.int .i64 v, .int .i64 v] 43)) (some ⟨w.heap.size, 0, none⟩) 1 1 [(v, v)] from sl_one w.drew v v) hA (by omega) (by omega)
  simp only [List.nil_append, List.append_nil, Nat.zero_add, Nat.add_zero] at HC
  rw [show (w.drew.alloc (.cells #[.int .i64 v, .int .i64 v] 43)).heap.size = w.heap.size + 1 by simp] at HC
  have HCC := Lib.hid HC
  have HB1 := Lib.hid hb1
  clear HC hb1 hA
  cases A with
  | none =>
    go_enter Try.func25, Try.ntmps25
    go_wp2
    go_loop [5] (fun iv => iv = .int .i64 0) (fun iv => 0)
    case atStart => rfl
    case round =>
      subst hrel
      go_wp2_with fail
      go_region_law (go_simp; go_at_call 29; refine HCC.out.mono ?_; rintro e w2 ⟨D, d, rfl, hsl, hb2⟩)
      all_goals
        have HF := Lib.hid (And.intro hsl (HB1.out.trans (hb2.mono (Nat.le_succ _))))
        clear hsl hb2
        go_wp2
        go_ret
        exact ⟨D, d, rfl, HF.out⟩
  | some ad =>
    go_enter Try.func25, Try.ntmps25
    go_wp2
    go_loop [5] (fun iv => iv = .int .i64 0) (fun iv => 0)
    case atStart => rfl
    case round =>
      subst hrel
      go_wp2_with fail
      go_region_law (go_simp; go_at_call 29; refine HCC.out.mono ?_; rintro e w2 ⟨D, d, rfl, hsl, hb2⟩)
      all_goals
        have HF := Lib.hid (And.intro hsl (HB1.out.trans (hb2.mono (Nat.le_succ _))))
        clear hsl hb2
        go_wp2
        go_ret
        exact ⟨D, d, rfl, HF.out⟩
theorem put_any {w : World} {A : Option Addr} {n c : Nat} {S : List Sp} (h : Sl w A n c S) (v : Int) (hn5 : n ≤ 5) :
    Calls Try.prog 25 #[.slice A n c, .int .i64 v] w fun e w' => ∃ A d, e = .returned (.slice A (n + 1) d) ∧ Sl w' A (n + 1) d (putS S v) ∧ Below w.heap.size w w' := by
  by_cases h0 : 0 < c
  · obtain ⟨b, off, rfl⟩ := h.shp h0
    exact put_at h v hn5
  · obtain rfl : c = 0 := by omega
    obtain rfl : n = 0 := by have := h.le; omega
    obtain rfl : S = [] := List.eq_nil_of_length_eq_zero h.len
    exact put_none v
end Go.Proofs.Ytadgplpbkephiaa
