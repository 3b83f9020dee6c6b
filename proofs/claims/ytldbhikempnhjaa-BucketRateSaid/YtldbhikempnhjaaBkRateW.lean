/- The walk of BucketRate: it returns true, whatever the three numbers. -/
import Derived.Test.YtldbhikempnhjaaBkHead
namespace Go.Proofs.Ytldbhikempnhjaa
open Go.RowKit
set_option linter.unusedVariables false

/-- One is taken of a full one, or of one that has some left, at its beginning. -/
theorem rate_first (N m K : Nat) (hm : m < N) (hN : N ≤ 4) (hK1 : 1 ≤ K) (hK : K ≤ 9) (w : World) :
    Calls Try.prog 12 #[bk N ((N : Int) - m) K 0, .int .i64 0] w fun e w' => e = .returned (.tuple #[bk N ((N : Int) - m - 1) K 0, .bool true]) ∧ Below w.heap.size w w' := by
  have hr : rB N ((N : Int) - m) K = true := decide_eq_true (by omega)
  have key : fL N ((N : Int) - m) K 0 0 = (N : Int) - m ∧ fA N ((N : Int) - m) K 0 0 = 0 := by
    by_cases h : (N : Int) - m = N
    · obtain ⟨e1, e2⟩ := f_full (a := 0) (n := 0) hr h
      rw [e1, e2]; exact ⟨rfl, rfl⟩
    · obtain ⟨e1, e2⟩ := f_on (a := 0) (n := 0) hr h (by omega)
      rw [e1, e2, Int.sub_self, Int.zero_ediv, if_neg (by omega), if_neg (by omega)]
      omega
  obtain ⟨e3, e4⟩ := t_one (a := 0) (n := 0) hr (by rw [key.1]; omega)
  have := take_any N ((N : Int) - m) K 0 0 w (by omega) (by omega)
  rw [e3, e4, key.1, key.2] at this
  exact this
/-- When it was last filled, and how many were taken of it, behind t moments. -/
def rA (N K t : Nat) : Int := if N = 0 then (t : Int) else (t : Int) / K * K
def rT (N K t : Nat) : Nat := if N = 0 then 0 else t / K
theorem rate_zero (K t : Nat) (hK1 : 1 ≤ K) (hK : K ≤ 9) (ht : t ≤ 59) (w : World) :
    Calls Try.prog 12 #[bk 0 0 K (t : Int), .int .i64 ((t : Int) + 1)] w fun e w' => e = .returned (.tuple #[bk 0 0 K ((t : Int) + 1), .bool false]) ∧ Below w.heap.size w w' := by
  have hr : rB 0 0 K = true := decide_eq_true (by omega)
  obtain ⟨e1, e2⟩ := f_full (a := (t : Int)) (n := (t : Int) + 1) hr rfl
  obtain ⟨e3, e4⟩ := t_none e1
  have := take_any 0 0 K t ((t : Int) + 1) w (by omega) (by omega)
  rw [e3, e4, e2, show max (t : Int) ((t : Int) + 1) = (t : Int) + 1 by omega] at this
  exact this
theorem rate_math (K t : Nat) (hK1 : 1 ≤ K) (hK : K ≤ 9) (ht : t ≤ 59) :
    (t : Int) / K * K ≤ t ∧ 0 ≤ (t : Int) / K * K ∧ ((((t : Int) + 1 - (t : Int) / K * K) / K = 1 ∧ ((t : Int) + 1) % K = 0 ∧ ((t : Int) + 1) / K * K = (t : Int) + 1 ∧ (t : Int) / K * K + K = (t : Int) + 1 ∧ ((t : Int) + 1) / K = (t : Int) / K + 1) ∨
      (((t : Int) + 1 - (t : Int) / K * K) / K = 0 ∧ ((t : Int) + 1) % K ≠ 0 ∧ ((t : Int) + 1) / K * K = (t : Int) / K * K ∧ ((t : Int) + 1) / K = (t : Int) / K)) := by
  have h : K = 1 ∨ K = 2 ∨ K = 3 ∨ K = 4 ∨ K = 5 ∨ K = 6 ∨ K = 7 ∨ K = 8 ∨ K = 9 := by omega
  rcases h with rfl | rfl | rfl | rfl | rfl | rfl | rfl | rfl | rfl <;> omega
theorem rate_hit (N K t : Nat) (hN1 : 1 ≤ N) (hN : N ≤ 4) (hK1 : 1 ≤ K) (hK : K ≤ 9) (ht : t ≤ 59) (hh : ((t : Int) + 1) % K = 0) (w : World) :
    Calls Try.prog 12 #[bk N 0 K ((t : Int) / K * K), .int .i64 ((t : Int) + 1)] w fun e w' => e = .returned (.tuple #[bk N 0 K (((t : Int) + 1) / K * K), .bool true]) ∧ Below w.heap.size w w' := by
  have hr : rB N 0 K = true := decide_eq_true (by omega)
  obtain ⟨m1, m2, ⟨m3, m4, m5, m6, m7⟩ | ⟨_, m4, _⟩⟩ := rate_math K t hK1 hK ht
  · obtain ⟨e1, e2⟩ := f_on (a := (t : Int) / K * K) (n := (t : Int) + 1) hr (by omega) (by omega)
    rw [m3] at e1 e2
    have k1 : fL N 0 K ((t : Int) / K * K) ((t : Int) + 1) = 1 := by rw [e1]; split <;> omega
    have k2 : fA N 0 K ((t : Int) / K * K) ((t : Int) + 1) = ((t : Int) + 1) / K * K := by rw [e2, m5]; split <;> omega
    obtain ⟨e3, e4⟩ := t_one (a := (t : Int) / K * K) (n := (t : Int) + 1) hr (by rw [k1]; omega)
    have := take_any N 0 K ((t : Int) / K * K) ((t : Int) + 1) w (by omega) (by omega)
    rw [e3, e4, k1, k2] at this
    exact this
  · exact absurd hh m4
theorem rate_miss (N K t : Nat) (hN1 : 1 ≤ N) (hN : N ≤ 4) (hK1 : 1 ≤ K) (hK : K ≤ 9) (ht : t ≤ 59) (hh : ((t : Int) + 1) % K ≠ 0) (w : World) :
    Calls Try.prog 12 #[bk N 0 K ((t : Int) / K * K), .int .i64 ((t : Int) + 1)] w fun e w' => e = .returned (.tuple #[bk N 0 K (((t : Int) + 1) / K * K), .bool false]) ∧ Below w.heap.size w w' := by
  have hr : rB N 0 K = true := decide_eq_true (by omega)
  obtain ⟨m1, m2, ⟨_, m4, _⟩ | ⟨m3, m4, m5, m6⟩⟩ := rate_math K t hK1 hK ht
  · exact absurd m4 hh
  · obtain ⟨e1, e2⟩ := f_on (a := (t : Int) / K * K) (n := (t : Int) + 1) hr (by omega) (by omega)
    rw [m3] at e1 e2
    have k1 : fL N 0 K ((t : Int) / K * K) ((t : Int) + 1) = 0 := by rw [e1]; split <;> omega
    have k2 : fA N 0 K ((t : Int) / K * K) ((t : Int) + 1) = ((t : Int) + 1) / K * K := by rw [e2, m5]; split <;> omega
    obtain ⟨e3, e4⟩ := t_none k1
    have := take_any N 0 K ((t : Int) / K * K) ((t : Int) + 1) w (by omega) (by omega)
    rw [e3, e4, k2] at this
    exact this
set_option maxRecDepth 100000 in
set_option maxHeartbeats 8000000 in
theorem rate_core (ev lo sz : Int) (N K G : Nat) (w : World) (he0 : 0 ≤ ev) (he1 : ev ≤ 255) (hl0 : 0 ≤ lo) (hl1 : lo ≤ 255) (hs0 : 0 ≤ sz) (hs1 : sz ≤ 255) (hN : sz % 5 = N) (hK : 1 + ev % 9 = K) (hG : lo % 60 = G) :
    Calls Try.prog 7 #[.int .u8 ev, .int .u8 lo, .int .u8 sz] w fun e w' => e = .returned (.bool true) ∧ Below w.heap.size w w' := by
  have hN4 : N ≤ 4 := by omega
  have hK1 : 1 ≤ K := by omega
  have hK9 : K ≤ 9 := by omega
  have hG59 : G ≤ 59 := by omega
  have hr : rB N N K = true := decide_eq_true (by omega)
  go_enter Try.func7, Try.ntmps7
  go_wp2_with fail
  refine (examples_any _).mono ?_
  rintro e wc1 ⟨rfl, h1⟩
  have B1 := Lib.hid (h1)
  clear h1 
  go_wp2_with fail
  refine (new_yes N K _ hr).mono ?_
  rintro e wc2 ⟨rfl, h2⟩
  have B2 := Lib.hid (below2 B1.out h2)
  clear h2  B1
  go_upto_region 7 with fail
  have Xb := Lib.hid (has_new wc2 (cs4 N N K 0) 23)
  have Gb : Hid (w.heap.size ≤ wc2.heap.size) := Lib.hid B2.out.size
  have B3 := Lib.hid (B2.out.alloc B2.out.size (.cells (cs4 N N K 0) 23))
  clear B2 
  generalize wc2.alloc (.cells (cs4 N N K 0) 23) = wv3 at *
  generalize wc2.heap.size = gb at *
  have XB := Xb
  have HBB := B3
  clear Xb B3
  go_wp2
  go_loopw [13] (fun i wr => ∃ m : Nat, m ≤ N ∧ i = .int .i64 m ∧ Has wr gb 23 (cs4 N ((N : Int) - m) K 0) ∧ Below w.heap.size w wr) (fun i _ => N - (intOf i).toNat)
  case atStart => exact ⟨0, by omega, rfl, by rw [show (N : Int) - ((0 : Nat) : Int) = N by omega]; exact XB.out, HBB.out⟩
  case round =>
    obtain ⟨m, hm, rfl, hb, hbw⟩ := hrel
    have Xb := Lib.hid hb
    have B20 := Lib.hid hbw
    clear hb hbw XB HBB
    by_cases hlt : m < N
    · have E0 := Lib.hid (fun w => rate_first N m K hlt hN4 hK1 hK9 w)
      obtain ⟨J, hJ⟩ : ∃ J : Int, J = (N : Int) - m := ⟨_, rfl⟩
      obtain ⟨J', hJ'⟩ : ∃ J' : Int, J' = J - 1 := ⟨_, rfl⟩
      rw [← hJ] at Xb E0
      rw [← hJ'] at E0
      have HJ := Lib.hid (And.intro hJ hJ')
      clear hJ hJ'
      obtain ⟨b0, b1, b2, b3⟩ := Xb.out.four
      go_wp2_with fail
      refine (E0.out _).mono ?_
      rintro e wc21 ⟨rfl, h21⟩
      have Yb := Lib.hid (Xb.out.below h21 Xb.out.lt)
      have B21 := Lib.hid (below2 B20.out h21)
      clear b0 b1 b2 b3
      clear h21 Xb B20
      have Xb := Yb
      clear Yb
      go_upto_region 16 with fail
      have Xc := Lib.hid (has_new wc21 (cs4 N J' K 0) 23)
      have Lbc := Lib.hid Xb.out.lt
      have Gc : Hid (w.heap.size ≤ wc21.heap.size) := Lib.hid B21.out.size
      have Yb := Lib.hid (Xb.out.alloc (.cells (cs4 N J' K 0) 23))
      have B22 := Lib.hid (B21.out.alloc B21.out.size (.cells (cs4 N J' K 0) 23))
      clear B21 Xb
      have Xb := Yb
      clear Yb
      generalize wc21.alloc (.cells (cs4 N J' K 0) 23) = wv22 at *
      generalize wc21.heap.size = gc at *
      obtain ⟨⟨b0, b1, b2, b3⟩, bf0, bf1, bf2, bf3⟩ := Xb.out.fours
      obtain ⟨c0, c1, c2, c3⟩ := Xc.out.four
      go_wp2
      go_roundw
      case rel => exact ⟨m + 1, by omega, by go_num, by rw [show (N : Int) - ((m + 1 : Nat) : Int) = J' by have := HJ.out; omega]; exact Xb.out.set4 _ _ _ _, below_set4 B22.out Gb.out _ _ _ _⟩
      case measure => simp [intOf]; omega
    · obtain rfl : m = N := by omega
      rw [show (m : Int) - m = 0 by omega] at Xb
      have hd3 : ∀ b : Bool, (b != b) = false := fun b => by cases b <;> rfl
      rcases Nat.eq_zero_or_pos m with h0 | hpos
      · obtain rfl := h0
        simp only [show ((0 : Nat) : Int) = 0 from rfl] at Xb ⊢
        rename World => w9
        go_wp2
        go_loopw [12, 16] (fun tk i wr => ∃ t : Nat, t ≤ G ∧ i = .int .i64 ((t : Int) + 1) ∧ tk = .int .i64 0 ∧ Has wr gb 23 (cs4 0 0 K (t : Int)) ∧ Below w.heap.size w wr) (fun _ i _ => G + 1 - (intOf i).toNat)
        case atStart => exact ⟨0, by omega, rfl, by simp, by simpa using Xb.out, B20.out⟩
        case round =>
          obtain ⟨t, ht, rfl, rfl, hb, hbw⟩ := hrel
          clear Xb B20
          have Xb := Lib.hid hb
          have B20 := Lib.hid hbw
          clear hb hbw
          have ht59 : t ≤ 59 := by omega
          by_cases hlt : t < G
          · have E0 := Lib.hid (fun w => rate_zero K t hK1 hK9 ht59 w)
            obtain ⟨b0, b1, b2, b3⟩ := Xb.out.four
            go_wp2_with fail
            refine (E0.out _).mono ?_
            rintro e wc31 ⟨rfl, h31⟩
            have Yb := Lib.hid (Xb.out.below h31 Xb.out.lt)
            have B31 := Lib.hid (below2 B20.out h31)
            clear b0 b1 b2 b3
            clear h31 Xb B20
            have Xb := Yb
            clear Yb
            go_upto_region 21 with fail
            have Xc := Lib.hid (has_new wc31 (cs4 0 0 K ((t : Int) + 1)) 23)
            have Lbc := Lib.hid Xb.out.lt
            have Gc : Hid (w.heap.size ≤ wc31.heap.size) := Lib.hid B31.out.size
            have Yb := Lib.hid (Xb.out.alloc (.cells (cs4 0 0 K ((t : Int) + 1)) 23))
            have B32 := Lib.hid (B31.out.alloc B31.out.size (.cells (cs4 0 0 K ((t : Int) + 1)) 23))
            clear B31 Xb
            have Xb := Yb
            clear Yb
            generalize wc31.alloc (.cells (cs4 0 0 K ((t : Int) + 1)) 23) = wv32 at *
            generalize wc31.heap.size = gc at *
            obtain ⟨⟨b0, b1, b2, b3⟩, bf0, bf1, bf2, bf3⟩ := Xb.out.fours
            obtain ⟨c0, c1, c2, c3⟩ := Xc.out.four
            go_wp2
            go_roundw
            case rel => exact ⟨t + 1, by omega, by go_num, rfl, by rw [show ((t + 1 : Nat) : Int) = (t : Int) + 1 by omega]; exact Xb.out.set4 _ _ _ _, below_set4 B32.out Gb.out _ _ _ _⟩
            case measure => simp [intOf]; omega
          · obtain rfl : t = G := by omega
            obtain ⟨D, hD⟩ : ∃ D : Int, (t : Int) / K = D := ⟨_, rfl⟩
            have hD0 : 0 ≤ D := by rw [← hD]; exact Int.ediv_nonneg (by omega) (by omega)
            have hD1 : D ≤ 59 := by rw [← hD]; have : (t : Int) / K ≤ t := Int.ediv_le_self _ (by omega); omega
            have hDD : (D == D) = true := by simp
            have hD2 : (t : Int).tdiv K = D := by rw [← hD, Int.tdiv_eq_ediv_of_nonneg (by omega)]
            go_wp2
            go_ret
            exact ⟨rfl, B20.out⟩
      · have hd0 : decide ((0 : Int) < m) = true := by simp; omega
        have hd1 : ((m : Int) == 0) = false := by simp; omega
        have hd2 : decide ((m : Int) = 0) = false := by simp; omega
        rename World => w9
        go_wp2
        go_loopw [12, 16] (fun tk i wr => ∃ t : Nat, t ≤ G ∧ i = .int .i64 ((t : Int) + 1) ∧ tk = .int .i64 ((t : Int) / K) ∧ Has wr gb 23 (cs4 m 0 K ((t : Int) / K * K)) ∧ Below w.heap.size w wr) (fun _ i _ => G + 1 - (intOf i).toNat)
        case atStart => exact ⟨0, by omega, rfl, by simp, by simpa using Xb.out, B20.out⟩
        case round =>
          obtain ⟨t, ht, rfl, rfl, hb, hbw⟩ := hrel
          clear Xb B20
          have Xb := Lib.hid hb
          have B20 := Lib.hid hbw
          clear hb hbw
          have ht59 : t ≤ 59 := by omega
          by_cases hlt : t < G
          · by_cases hh : ((t : Int) + 1) % K = 0
            · have E0 := Lib.hid (fun w => rate_hit m K t hpos hN4 hK1 hK9 ht59 hh w)
              obtain ⟨m1, m2, m3⟩ := rate_math K t hK1 hK9 ht59
              have MM := Lib.hid (show ((t : Int) + 1) / K = (t : Int) / K + 1 ∧ 0 ≤ (t : Int) / K ∧ (t : Int) / K ≤ 59 from by
                have h5 : 0 ≤ (t : Int) / K := Int.ediv_nonneg (by omega) (by omega)
                have h6 : (t : Int) / K ≤ t := Int.ediv_le_self _ (by omega)
                rcases m3 with ⟨_, _, _, _, h7⟩ | ⟨_, h8, _, h7⟩
                · exact ⟨by first | omega | (exact absurd ‹((t : Int) + 1) % K = 0› hh), by omega, by omega⟩
                · exact ⟨by first | omega | (exact absurd hh h8), by omega, by omega⟩)
              clear m1 m2 m3
              obtain ⟨R, hR⟩ : ∃ R : Int, ((t : Int) + 1).tmod K = R := ⟨_, rfl⟩
              have hR2 : ((t : Int) + 1) % K = R := by rw [← hR, Int.tmod_eq_emod_of_nonneg (by omega)]
              obtain rfl : R = 0 := by omega
              clear hh
              obtain ⟨D, hD⟩ : ∃ D : Int, (t : Int) / K = D := ⟨_, rfl⟩
              obtain ⟨A, hA⟩ : ∃ A : Int, (t : Int) / K * K = A := ⟨_, rfl⟩
              obtain ⟨A', hA'⟩ : ∃ A' : Int, ((t : Int) + 1) / K * K = A' := ⟨_, rfl⟩
              rw [hA] at Xb E0
              rw [hA'] at E0
              rw [hD] at MM ⊢
              have HA := Lib.hid hA'
              clear hA hA' hD
              have hD0 := MM.out.2.1
              have hD1 := MM.out.2.2
              obtain ⟨b0, b1, b2, b3⟩ := Xb.out.four
              go_wp2_with fail
              refine (E0.out _).mono ?_
              rintro e wc31 ⟨rfl, h31⟩
              have Yb := Lib.hid (Xb.out.below h31 Xb.out.lt)
              have B31 := Lib.hid (below2 B20.out h31)
              clear b0 b1 b2 b3
              clear h31 Xb B20
              have Xb := Yb
              clear Yb
              go_upto_region 21 with fail
              have Xc := Lib.hid (has_new wc31 (cs4 m 0 K A') 23)
              have Lbc := Lib.hid Xb.out.lt
              have Gc : Hid (w.heap.size ≤ wc31.heap.size) := Lib.hid B31.out.size
              have Yb := Lib.hid (Xb.out.alloc (.cells (cs4 m 0 K A') 23))
              have B32 := Lib.hid (B31.out.alloc B31.out.size (.cells (cs4 m 0 K A') 23))
              clear B31 Xb
              have Xb := Yb
              clear Yb
              generalize wc31.alloc (.cells (cs4 m 0 K A') 23) = wv32 at *
              generalize wc31.heap.size = gc at *
              obtain ⟨⟨b0, b1, b2, b3⟩, bf0, bf1, bf2, bf3⟩ := Xb.out.fours
              obtain ⟨c0, c1, c2, c3⟩ := Xc.out.four
              go_wp2
              go_roundw
              case rel => exact ⟨t + 1, by omega, by go_num, by rw [show ((t + 1 : Nat) : Int) = (t : Int) + 1 by omega, MM.out.1], by rw [show ((t + 1 : Nat) : Int) = (t : Int) + 1 by omega, HA.out]; exact Xb.out.set4 _ _ _ _, below_set4 B32.out Gb.out _ _ _ _⟩
              case measure => simp [intOf]; omega
            · have E0 := Lib.hid (fun w => rate_miss m K t hpos hN4 hK1 hK9 ht59 hh w)
              obtain ⟨m1, m2, m3⟩ := rate_math K t hK1 hK9 ht59
              have MM := Lib.hid (show ((t : Int) + 1) / K = (t : Int) / K + 0 ∧ 0 ≤ (t : Int) / K ∧ (t : Int) / K ≤ 59 from by
                have h5 : 0 ≤ (t : Int) / K := Int.ediv_nonneg (by omega) (by omega)
                have h6 : (t : Int) / K ≤ t := Int.ediv_le_self _ (by omega)
                rcases m3 with ⟨_, _, _, _, h7⟩ | ⟨_, h8, _, h7⟩
                · exact ⟨by first | omega | (exact absurd ‹((t : Int) + 1) % K = 0› hh), by omega, by omega⟩
                · exact ⟨by first | omega | (exact absurd hh h8), by omega, by omega⟩)
              clear m1 m2 m3
              obtain ⟨R, hR⟩ : ∃ R : Int, ((t : Int) + 1).tmod K = R := ⟨_, rfl⟩
              have hR2 : ((t : Int) + 1) % K = R := by rw [← hR, Int.tmod_eq_emod_of_nonneg (by omega)]
              have hR0 : (R == 0) = false := by simp; omega
              have hR1 : decide (R = 0) = false := by simp; omega
              clear hh
              obtain ⟨D, hD⟩ : ∃ D : Int, (t : Int) / K = D := ⟨_, rfl⟩
              obtain ⟨A, hA⟩ : ∃ A : Int, (t : Int) / K * K = A := ⟨_, rfl⟩
              obtain ⟨A', hA'⟩ : ∃ A' : Int, ((t : Int) + 1) / K * K = A' := ⟨_, rfl⟩
              rw [hA] at Xb E0
              rw [hA'] at E0
              rw [hD] at MM ⊢
              have HA := Lib.hid hA'
              clear hA hA' hD
              have hD0 := MM.out.2.1
              have hD1 := MM.out.2.2
              obtain ⟨b0, b1, b2, b3⟩ := Xb.out.four
              go_wp2_with fail
              refine (E0.out _).mono ?_
              rintro e wc31 ⟨rfl, h31⟩
              have Yb := Lib.hid (Xb.out.below h31 Xb.out.lt)
              have B31 := Lib.hid (below2 B20.out h31)
              clear b0 b1 b2 b3
              clear h31 Xb B20
              have Xb := Yb
              clear Yb
              go_upto_region 21 with fail
              have Xc := Lib.hid (has_new wc31 (cs4 m 0 K A') 23)
              have Lbc := Lib.hid Xb.out.lt
              have Gc : Hid (w.heap.size ≤ wc31.heap.size) := Lib.hid B31.out.size
              have Yb := Lib.hid (Xb.out.alloc (.cells (cs4 m 0 K A') 23))
              have B32 := Lib.hid (B31.out.alloc B31.out.size (.cells (cs4 m 0 K A') 23))
              clear B31 Xb
              have Xb := Yb
              clear Yb
              generalize wc31.alloc (.cells (cs4 m 0 K A') 23) = wv32 at *
              generalize wc31.heap.size = gc at *
              obtain ⟨⟨b0, b1, b2, b3⟩, bf0, bf1, bf2, bf3⟩ := Xb.out.fours
              obtain ⟨c0, c1, c2, c3⟩ := Xc.out.four
              go_wp2
              go_roundw
              case rel => exact ⟨t + 1, by omega, by go_num, by rw [show ((t + 1 : Nat) : Int) = (t : Int) + 1 by omega, MM.out.1]; simp, by rw [show ((t + 1 : Nat) : Int) = (t : Int) + 1 by omega, HA.out]; exact Xb.out.set4 _ _ _ _, below_set4 B32.out Gb.out _ _ _ _⟩
              case measure => simp [intOf]; omega
          · obtain rfl : t = G := by omega
            obtain ⟨D, hD⟩ : ∃ D : Int, (t : Int) / K = D := ⟨_, rfl⟩
            have hD0 : 0 ≤ D := by rw [← hD]; exact Int.ediv_nonneg (by omega) (by omega)
            have hD1 : D ≤ 59 := by rw [← hD]; have : (t : Int) / K ≤ t := Int.ediv_le_self _ (by omega); omega
            have hDD : (D == D) = true := by simp
            have hD2 : (t : Int).tdiv K = D := by rw [← hD, Int.tdiv_eq_ediv_of_nonneg (by omega)]
            rw [hD]
            go_wp2
            go_ret
            exact ⟨rfl, B20.out⟩
theorem rate_walk (ev lo sz : Int) (w : World) (he : 0 ≤ ev ∧ ev ≤ 255) (hl : 0 ≤ lo ∧ lo ≤ 255) (hs : 0 ≤ sz ∧ sz ≤ 255) :
    Calls Try.prog 7 #[.int .u8 ev, .int .u8 lo, .int .u8 sz] w fun e w' => e = .returned (.bool true) ∧ Below w.heap.size w w' :=
  rate_core ev lo sz (sz % 5).toNat (1 + ev % 9).toNat (lo % 60).toNat w he.1 he.2 hl.1 hl.2 hs.1 hs.2 (by omega) (by omega) (by omega)
end Go.Proofs.Ytldbhikempnhjaa
