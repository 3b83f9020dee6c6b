/- The statement SizeRounds, called with two numbers of 16 bits in any memory in which the table of classes reads as it is written, returns true and writes nothing that was there. -/
import Derived.Test.YtbojiphhcciliaaDoorSizeHead
namespace Go.Proofs.YtbojiphhcciliaaDoor
open Go.RowKit
set_option linter.unusedVariables false

theorem cv_mono {i j : Nat} (hi : i ≤ j) (hj : j < 7) : cv i ≤ cv j := by
  have h : ∀ i : Fin 7, ∀ j : Fin 7, i ≤ j → cv i.1 ≤ cv j.1 := by decide
  exact h ⟨i, by omega⟩ ⟨j, hj⟩ hi
theorem rnd_mono {a b : Int} (h0 : 0 ≤ a) (h1 : a ≤ b) (h2 : b ≤ 1024) : rnd a ≤ rnd b := by
  obtain ⟨i, hi, _, e1, g1, g2⟩ := rnd_of h0 (by omega)
  obtain ⟨j, hj, _, e3, g3, g4⟩ := rnd_of (n := b) (by omega) h2
  rw [e1, e3]
  by_cases h : i ≤ j
  · exact cv_mono h hj
  · rcases g2 with rfl | g2
    · omega
    · have := cv_mono (i := j) (j := i - 1) (by omega) (by omega)
      omega
/-- What a class is rounded to is itself. -/
theorem rnd_cv {k : Nat} (hk : k < 7) : rnd (cv k) = cv k ∧ rok (cv k) = true ∧ cls (cv k) = k := by
  match k, hk with
  | 0, _ => decide
  | 1, _ => decide
  | 2, _ => decide
  | 3, _ => decide
  | 4, _ => decide
  | 5, _ => decide
  | 6, _ => decide
theorem filled_at {k : Nat} (hk : k < 7) : (filled 7)[k]? = some (.int .i64 (cv k)) := by
  match k, hk with
  | 0, _ => rfl
  | 1, _ => rfl
  | 2, _ => rfl
  | 3, _ => rfl
  | 4, _ => rfl
  | 5, _ => rfl
  | 6, _ => rfl

set_option maxRecDepth 100000 in
set_option maxHeartbeats 8000000 in
theorem rounds_walk (n m : Int) (hn0 : 0 ≤ n) (hn1 : n ≤ 65535) (hm0 : 0 ≤ m) (hm1 : m ≤ 65535) (w : World) (ht : Tab w) :
    Calls Tryd.prog 4 #[.int .u16 n, .int .u16 m] w fun e w' => e = .returned (.bool true) ∧ Below w.heap.size w w' := by
  go_enter Tryd.func4, Tryd.ntmps4
  go_wp2_with fail
  refine (examples_any _ ht).mono ?_
  rintro e w1 ⟨rfl, hb1⟩
  have ht1 := Lib.hid (ht.below hb1)
  have HB1 := Lib.hid hb1
  clear hb1 ht
  go_wp2_with fail
  generalize hA : n % 1025 = a
  generalize hB : m % 1025 = b
  have ha0 : 0 ≤ a := by omega
  have ha1 : a ≤ 1024 := by omega
  have hb0 : 0 ≤ b := by omega
  have hb1 : b ≤ 1024 := by omega
  clear hA hB hn0 hn1 hm0 hm1
  refine (round_any a _ ht1.out).mono ?_
  rintro e w' ⟨rfl, rfl⟩
  obtain ⟨k, hk, e1, e2, e3, e4⟩ := rnd_of ha0 ha1
  have E1 := Lib.hid e1
  have E2 := Lib.hid e2
  have E4 := Lib.hid e4
  have hrc := rnd_cv hk
  have E5 := Lib.hid hrc
  have HK := Lib.hid (cv_cases hk)
  have M1 : Hid (a ≤ b → cv k ≤ rnd b) := Lib.hid (fun h => by rw [← e2]; exact rnd_mono ha0 h hb1)
  have M2 : Hid (b ≤ a → rnd b ≤ cv k) := Lib.hid (fun h => by rw [← e2]; exact rnd_mono hb0 h ha1)
  rw [rok_yes ha0 ha1, e2]
  clear e1 e2 e4 hrc
  go_wp2_with fail
  refine (round_any b _ ht1.out).mono ?_
  rintro e w' ⟨rfl, rfl⟩
  rw [rok_yes hb0 hb1]
  have hbd := rnd_bd b
  generalize rnd b = y at M1 M2 hbd ⊢
  go_wp2_with fail
  refine (round_any (cv k) _ ht1.out).mono ?_
  rintro e w' ⟨rfl, rfl⟩
  rw [E5.out.1, E5.out.2.1]
  go_wp2_with fail
  refine (classes_any _ ht1.out).mono ?_
  rintro e w2 ⟨rfl, hh, hb2⟩
  have hlt2 : w1.heap.size < w2.heap.size := hh.lt
  have HT2 := Lib.hid (ht1.out.below hb2)
  have HB2 : Hid (Below w.heap.size w w2) := Lib.hid (HB1.out.trans (hb2.mono HB1.out.size))
  have hck : w2.cell? ⟨w1.heap.size, k, none⟩ = some (.int .i64 (cv k)) := (hh.cell k).trans (filled_at hk)
  have HH := Lib.hid hh
  clear hb2 ht1 HB1 hh
  go_wp2_with fail
  refine (class_any a _ HT2.out).mono ?_
  rintro e w' ⟨rfl, rfl⟩
  rw [E1.out]
  generalize hB1 : w1.heap.size = B at HH hck ⊢
  clear hlt2 hB1
  rcases Nat.eq_zero_or_pos k with hk0 | hk0
  · subst hk0
    have hx := HK.out.2.2.1 rfl
    rw [hx] at hck e3 M1 M2 ⊢
    rw [show ((0 : Nat) : Int) = 0 from rfl]
    clear hx E1 E2 E4 E5 HK HH HT2 hk
    rcases Int.lt_trichotomy a b with h | h | h
    · have h1 := M1.out (by omega)
      clear M1 M2
      go_wp2
      go_ret
      exact ⟨rfl, HB2.out⟩
    · have h1 := M1.out (by omega)
      have h2 := M2.out (by omega)
      subst h
      clear M1 M2
      go_wp2
      go_ret
      exact ⟨rfl, HB2.out⟩
    · have h2 := M2.out (by omega)
      clear M1 M2
      go_wp2
      go_ret
      exact ⟨rfl, HB2.out⟩
  · obtain ⟨j, rfl⟩ : ∃ j, k = j + 1 := ⟨k - 1, by omega⟩
    have hx := HK.out.2.2.2 (by omega)
    have hlo := E4.out.resolve_left (by omega)
    have hj := cv_cases (k := j) (by omega)
    have hcj : w2.cell? ⟨B, j, none⟩ = some (.int .i64 (cv j)) := (HH.out.cell j).trans (filled_at (by omega))
    rw [show j + 1 - 1 = j from rfl] at hx hlo
    have hlow : cv (j + 1) < 2 * a := by omega
    have h16 : 17 ≤ a := by omega
    rw [show ((j + 1 : Nat) : Int) = (j : Int) + 1 from by omega]
    have hjk : (j : Int) + 1 < 7 := by omega
    clear hx E1 E2 E4 E5 HK HH HT2 hj hk hk0
    generalize cv (j + 1) = x at M1 M2 e3 hck hlow ⊢
    generalize cv j = z at hlo hcj
    rcases Int.lt_trichotomy a b with h | h | h
    · have h1 := M1.out (by omega)
      clear M1 M2
      go_wp2
      go_ret
      exact ⟨rfl, HB2.out⟩
    · have h1 := M1.out (by omega)
      have h2 := M2.out (by omega)
      subst h
      clear M1 M2
      go_wp2
      go_ret
      exact ⟨rfl, HB2.out⟩
    · have h2 := M2.out (by omega)
      clear M1 M2
      go_wp2
      go_ret
      exact ⟨rfl, HB2.out⟩
end Go.Proofs.YtbojiphhcciliaaDoor
