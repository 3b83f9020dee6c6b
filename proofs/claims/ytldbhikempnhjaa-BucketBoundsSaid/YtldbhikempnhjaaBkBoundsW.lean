/- The walk of BucketBounds: it returns true, whatever the size, how often, and the moments. -/
import Derived.Test.YtldbhikempnhjaaBkHead
import Derived.Test.YtldbhikempnhjaaApp
namespace Go.Proofs.Ytldbhikempnhjaa
open Go.RowKit
set_option linter.unusedVariables false

/-- What was taken, and what is left, is covered by the size and the time that went by. -/
structure Cov (N K : Nat) (n x L A : Int) : Prop where
  l0 : 0 ≤ L
  l1 : L ≤ N
  a0 : 0 ≤ A
  a1 : A ≤ n
  sum : (x + L) * K ≤ (N : Int) * K + A
theorem Cov.right {N K : Nat} {n x L A : Int} (c : Cov N K n x L A) (hN : N ≤ 7) (hK1 : 1 ≤ K) (hK : K ≤ 12) : rB N L K = true := decide_eq_true ⟨by omega, by omega, c.l0, c.l1, by omega, by omega⟩
theorem Cov.later {N K : Nat} {n m x L A : Int} (c : Cov N K n x L A) (h : n ≤ m) : Cov N K m x L A := ⟨c.l0, c.l1, c.a0, Int.le_trans c.a1 h, c.sum⟩
/-- No more was taken than the size and the time divided by how often. -/
theorem Cov.few {N K : Nat} {n x L A : Int} (c : Cov N K n x L A) (hK1 : 1 ≤ K) : x ≤ N + n / K := by
  have h1 : (x - N) * K ≤ n := by
    have h2 := c.sum
    have h3 := c.a1
    have h4 : 0 ≤ L * (K : Int) := Int.mul_nonneg c.l0 (by omega)
    rw [Int.add_mul] at h2
    rw [Int.sub_mul]
    omega
  have h5 := (Int.le_ediv_iff_mul_le (by omega : 0 < (K : Int))).2 h1
  omega
theorem Cov.fill {N K : Nat} {n x L A : Int} (c : Cov N K n x L A) (hN : N ≤ 7) (hK1 : 1 ≤ K) (hK : K ≤ 12) : Cov N K n x (fL N L K A n) (fA N L K A n) := by
  have hr := c.right hN hK1 hK
  obtain ⟨l0, l1, a0, a1, sum⟩ := c
  by_cases hl : L = N
  · obtain ⟨e1, e2⟩ := f_full (a := A) (n := n) hr hl
    rw [e1, e2]
    exact ⟨l0, l1, by omega, by omega, by omega⟩
  · obtain ⟨e1, e2⟩ := f_on (a := A) (n := n) hr hl (by omega)
    obtain ⟨h0, h1, h2⟩ := div_mul_le (n - A) K (by omega) (by omega)
    rw [e1, e2]
    by_cases hq : (N : Int) - L ≤ (n - A) / K
    · rw [if_pos hq, if_pos hq]
      have h3 : ((N : Int) - L) * K ≤ (n - A) / K * K := Int.mul_le_mul_of_nonneg_right hq (by omega)
      refine ⟨by omega, by omega, by omega, by omega, ?_⟩
      rw [Int.sub_mul] at h3
      rw [Int.add_mul] at sum ⊢
      omega
    · rw [if_neg hq, if_neg hq]
      refine ⟨by omega, by omega, by omega, by omega, ?_⟩
      rw [Int.add_mul] at sum ⊢
      rw [Int.add_mul]
      omega
theorem Cov.take {N K : Nat} {n x L A : Int} (c : Cov N K n x L A) (h : 1 ≤ L) : Cov N K n (x + 1) (L - 1) A :=
  ⟨by have := c.l0; omega, by have := c.l1; omega, c.a0, c.a1, by rw [show x + 1 + (L - 1) = x + L by omega]; exact c.sum⟩
theorem cov_step {N K : Nat} {n x L A : Int} (c : Cov N K n x L A) (hN : N ≤ 7) (hK1 : 1 ≤ K) (hK : K ≤ 12) (hn : n ≤ 1000) :
    (∃ L' A', Cov N K n (x + 1) L' A' ∧ L' + 1 ≤ N ∧ ∀ w : World, Calls Try.prog 12 #[bk N L K A, .int .i64 n] w fun e w' => e = .returned (.tuple #[bk N L' K A', .bool true]) ∧ Below w.heap.size w w') ∨
    (∃ L' A', Cov N K n x L' A' ∧ ∀ w : World, Calls Try.prog 12 #[bk N L K A, .int .i64 n] w fun e w' => e = .returned (.tuple #[bk N L' K A', .bool false]) ∧ Below w.heap.size w w') := by
  have hr := c.right hN hK1 hK
  have cf := c.fill hN hK1 hK
  have hA0 := c.a0
  have hA1 := c.a1
  have HT := fun w => take_any N L K A n w (by omega) (by omega)
  by_cases h : fL N L K A n = 0
  · rw [(t_none h).1, (t_none h).2] at HT
    rw [h] at cf
    exact .inr ⟨_, _, cf, HT⟩
  · rw [(t_one hr h).1, (t_one hr h).2] at HT
    have h1 := cf.l0
    have h2 := cf.l1
    exact .inl ⟨_, _, cf.take (by omega), by omega, HT⟩
theorem getD_u8 {zs : List Int} (h : ∀ n ∈ zs, (Lit.int .u8 n).wf = true) {i : Nat} (hi : i < zs.length) : (zs.map (Value.int .u8))[i]? = some (.int .u8 (zs.getD i 0)) ∧ 0 ≤ zs.getD i 0 ∧ zs.getD i 0 ≤ 255 := by
  have hm : zs.getD i 0 ∈ zs := by rw [List.getD_eq_getElem?_getD, List.getElem?_eq_getElem hi]; exact List.getElem_mem hi
  have hb := bounds_u8 (h _ hm)
  refine ⟨?_, hb.1, hb.2⟩
  rw [List.getElem?_map, List.getElem?_eq_getElem hi, List.getD_eq_getElem?_getD, List.getElem?_eq_getElem hi]
  rfl
set_option maxRecDepth 100000 in
set_option maxHeartbeats 8000000 in
theorem bounds_core (sz ev : Int) (x0 : Option Addr) (len0 cap0 : Nat) (z0 : List Int) (N K : Nat) (w : World) (hs0 : 0 ≤ sz) (hs1 : sz ≤ 255) (he0 : 0 ≤ ev) (he1 : ev ≤ 255)
    (hl0 : z0.length = len0) (hnc : len0 ≤ cap0) (hcm : cap0 ≤ maxLen) (hLies : Lies w x0 (z0.map (Value.int .u8))) (hwf : ∀ n ∈ z0, (Lit.int .u8 n).wf = true) (hN : sz % 8 = N) (hK : 1 + ev % 12 = K) :
    Calls Try.prog 4 #[.int .u8 sz, .int .u8 ev, .slice x0 len0 cap0] w fun e w' => e = .returned (.bool true) ∧ Below w.heap.size w w' := by
  unfold maxLen at hcm
  have hlen0 : (len0 : Int) ≤ 9223372036854775807 := by omega
  have hN7 : N ≤ 7 := by omega
  have hK1 : 1 ≤ K := by omega
  have hK12 : K ≤ 12 := by omega
  have hr : rB N N K = true := decide_eq_true (by omega)
  have Z0 := Lib.hid hwf
  have R0 := Lib.hid hLies
  have L0 := Lib.hid hl0
  obtain ⟨a0, ha0⟩ : ∃ a0, (a0 = len0 ∧ len0 ≤ 60) ∨ (a0 = 60 ∧ 60 < len0) := by
    by_cases h : len0 ≤ 60
    · exact ⟨len0, .inl ⟨rfl, h⟩⟩
    · exact ⟨60, .inr ⟨rfl, by omega⟩⟩
  have A0 := Lib.hid ha0
  clear hwf hLies hl0 ha0 hnc hcm
  go_enter Try.func4, Try.ntmps4
  go_wp2_with fail
  refine (examples_any _).mono ?_
  rintro e wc1 ⟨rfl, h1⟩
  have B1 := Lib.hid (h1)
  clear h1 
  go_wp2_with fail
  refine (new_yes N K _ hr).mono ?_
  rintro e wc2 ⟨rfl, h2⟩
  have B2 := Lib.hid (below2 B1.out h2)
  clear h2  B1
  go_upto_region 7 with fail
  have Xb := Lib.hid (has_new wc2 (cs4 N N K 0) 23)
  have Gb : Hid (w.heap.size ≤ wc2.heap.size) := Lib.hid B2.out.size
  have B3 := Lib.hid (B2.out.alloc B2.out.size (.cells (cs4 N N K 0) 23))
  clear B2 
  generalize wc2.alloc (.cells (cs4 N N K 0) 23) = wv3 at *
  generalize wc2.heap.size = gb at *
  have XB := Xb
  have HBB := B3
  clear Xb B3
  go_wp2
  go_loopw [12, 13, 14] (fun nw tk i wr => ∃ (j : Nat) (n x L A : Int), j ≤ a0 ∧ i = .int .i64 j ∧ nw = .int .i64 n ∧ tk = .int .i64 x ∧ n ≤ 7 * j ∧ 0 ≤ x ∧ x ≤ j ∧ Cov N K n x L A ∧ Has wr gb 23 (cs4 N L K A) ∧ Below w.heap.size w wr) (fun _ _ i _ => a0 - (intOf i).toNat)
  case atStart => exact ⟨0, 0, 0, N, 0, by omega, rfl, rfl, rfl, by omega, by omega, by omega, ⟨by omega, by omega, by omega, by omega, by rw [Int.zero_add]; omega⟩, XB.out, HBB.out⟩
  case round =>
    obtain ⟨j, n, x, L, A, hj, rfl, rfl, rfl, hn, hx0, hx1, hcov, hb, hbw⟩ := hrel
    have Xb := Lib.hid hb
    have B20 := Lib.hid hbw
    have CV := Lib.hid hcov
    clear hb hbw hcov XB HBB
    have hn0 : 0 ≤ n := by have := CV.out.a0; have := CV.out.a1; omega
    by_cases hlt : j < a0
    · have hj60 : j < 60 := by have := A0.out; omega
      have hjl : j < len0 := by have := A0.out; omega
      have hjz : j < z0.length := by have := L0.out; omega
      obtain ⟨hx, hy0, hy1⟩ := getD_u8 Z0.out hjz
      obtain ⟨bl, off, rfl, hc⟩ := (R0.out.below B20.out).at_ hx
      clear hx hjz
      generalize z0.getD j 0 = y at *
      obtain ⟨Y, hY⟩ : ∃ Y : Int, y % 8 = Y := ⟨_, rfl⟩
      have hY0 : 0 ≤ Y := by omega
      have hY1 : Y ≤ 7 := by omega
      obtain ⟨n', hn'⟩ : ∃ n' : Int, n + Y = n' := ⟨_, rfl⟩
      have hn0' : 0 ≤ n' := by omega
      have hn1' : n' ≤ 1000 := by omega
      obtain ⟨Q, hQ⟩ : ∃ Q : Int, n' / (K : Int) = Q := ⟨_, rfl⟩
      have hQ2 : n'.tdiv K = Q := by rw [← hQ, Int.tdiv_eq_ediv_of_nonneg hn0']
      have hQ0 : 0 ≤ Q := by rw [← hQ]; exact Int.ediv_nonneg hn0' (by omega)
      have hQ1 : Q ≤ 1000 := by rw [← hQ]; have : n' / (K : Int) ≤ n' := Int.ediv_le_self _ hn0'; omega
      have hNN : ((N : Int) != N) = false := by simp
      have hdN : decide ((N : Int) = N) = true := by simp
      rcases cov_step (CV.out.later (by omega : n ≤ n')) hN7 hK1 hK12 hn1' with hh | hh
      · obtain ⟨L', A', cov', hL', E⟩ := hh
        have CV' := Lib.hid cov'
        have E0 := Lib.hid E
        clear cov' E
        have hr' := CV'.out.right hN7 hK1 hK12
        have hA' : decide (n' < A') = false := by have := CV'.out.a1; simp; omega
        have hl0' := CV'.out.l0
        have hl1' := CV'.out.l1
        have hA0' : A' ≤ n' := CV'.out.a1
        have hfew : decide ((N : Int) + Q < x + 1) = false := by have := CV'.out.few hK1; rw [hQ] at this; simp; omega
        have hfew2 : ¬ (N : Int) + Q < x + 1 := by have := CV'.out.few hK1; rw [hQ] at this; omega
        have hz1 : ((N : Int) == 0) = false := by simp; omega
        have hz2 : decide ((N : Int) < L' + 1) = false := by simp; omega
        have HR := Lib.hid hr'
        clear hr'
        obtain ⟨b0, b1, b2, b3⟩ := Xb.out.four
        go_wp2_with fail
        refine (E0.out _).mono ?_
        rintro e wc31 ⟨rfl, h31⟩
        have Yb := Lib.hid (Xb.out.below h31 Xb.out.lt)
        have B31 := Lib.hid (below2 B20.out h31)
        clear b0 b1 b2 b3
        clear h31 Xb B20
        have Xb := Yb
        clear Yb
        go_upto_region 16 with fail
        have Xc := Lib.hid (has_new wc31 (cs4 N L' K A') 23)
        have Lbc := Lib.hid Xb.out.lt
        have Gc : Hid (w.heap.size ≤ wc31.heap.size) := Lib.hid B31.out.size
        have Yb := Lib.hid (Xb.out.alloc (.cells (cs4 N L' K A') 23))
        have B32 := Lib.hid (B31.out.alloc B31.out.size (.cells (cs4 N L' K A') 23))
        clear B31 Xb
        have Xb := Yb
        clear Yb
        generalize wc31.alloc (.cells (cs4 N L' K A') 23) = wv32 at *
        generalize wc31.heap.size = gc at *
        obtain ⟨b0, b1, b2, b3⟩ := Xb.out.four
        obtain ⟨c0, c1, c2, c3⟩ := Xc.out.four
        go_wp2_with fail
        refine (right_any N L' K A' _).mono ?_
        rintro e wc33 ⟨rfl, h33⟩
        have Yb := Lib.hid (Xb.out.below h33 Xb.out.lt)
        have Yc := Lib.hid (Xc.out.below h33 Xc.out.lt)
        have B33 := Lib.hid (below2 B32.out h33)
        clear b0 b1 b2 b3 c0 c1 c2 c3
        clear h33 Xb Xc B32
        have Xb := Yb
        have Xc := Yc
        clear Yb Yc
        rw [HR.out]
        obtain ⟨⟨b0, b1, b2, b3⟩, bf0, bf1, bf2, bf3⟩ := Xb.out.fours
        obtain ⟨c0, c1, c2, c3⟩ := Xc.out.four
        go_wp2
        go_roundw
        case rel => exact ⟨j + 1, n', x + 1, L', A', by omega, by go_num, rfl, rfl, by omega, by omega, by omega, CV'.out, Xb.out.set4 _ _ _ _, below_set4 B33.out Gb.out _ _ _ _⟩
        case measure => simp [intOf]; omega
      · obtain ⟨L', A', cov', E⟩ := hh
        have CV' := Lib.hid cov'
        have E0 := Lib.hid E
        clear cov' E
        have hr' := CV'.out.right hN7 hK1 hK12
        have hA' : decide (n' < A') = false := by have := CV'.out.a1; simp; omega
        have hl0' := CV'.out.l0
        have hl1' := CV'.out.l1
        have hA0' : A' ≤ n' := CV'.out.a1
        have hfew : decide ((N : Int) + Q < x) = false := by have := CV'.out.few hK1; rw [hQ] at this; simp; omega
        have hfew2 : ¬ (N : Int) + Q < x := by have := CV'.out.few hK1; rw [hQ] at this; omega
        have HR := Lib.hid hr'
        clear hr'
        obtain ⟨b0, b1, b2, b3⟩ := Xb.out.four
        go_wp2_with fail
        refine (E0.out _).mono ?_
        rintro e wc31 ⟨rfl, h31⟩
        have Yb := Lib.hid (Xb.out.below h31 Xb.out.lt)
        have B31 := Lib.hid (below2 B20.out h31)
        clear b0 b1 b2 b3
        clear h31 Xb B20
        have Xb := Yb
        clear Yb
        go_upto_region 16 with fail
        have Xc := Lib.hid (has_new wc31 (cs4 N L' K A') 23)
        have Lbc := Lib.hid Xb.out.lt
        have Gc : Hid (w.heap.size ≤ wc31.heap.size) := Lib.hid B31.out.size
        have Yb := Lib.hid (Xb.out.alloc (.cells (cs4 N L' K A') 23))
        have B32 := Lib.hid (B31.out.alloc B31.out.size (.cells (cs4 N L' K A') 23))
        clear B31 Xb
        have Xb := Yb
        clear Yb
        generalize wc31.alloc (.cells (cs4 N L' K A') 23) = wv32 at *
        generalize wc31.heap.size = gc at *
        obtain ⟨b0, b1, b2, b3⟩ := Xb.out.four
        obtain ⟨c0, c1, c2, c3⟩ := Xc.out.four
        go_wp2_with fail
        refine (right_any N L' K A' _).mono ?_
        rintro e wc33 ⟨rfl, h33⟩
        have Yb := Lib.hid (Xb.out.below h33 Xb.out.lt)
        have Yc := Lib.hid (Xc.out.below h33 Xc.out.lt)
        have B33 := Lib.hid (below2 B32.out h33)
        clear b0 b1 b2 b3 c0 c1 c2 c3
        clear h33 Xb Xc B32
        have Xb := Yb
        have Xc := Yc
        clear Yb Yc
        rw [HR.out]
        obtain ⟨⟨b0, b1, b2, b3⟩, bf0, bf1, bf2, bf3⟩ := Xb.out.fours
        obtain ⟨c0, c1, c2, c3⟩ := Xc.out.four
        obtain ⟨z, hz1⟩ : ∃ z : Bool, ((N : Int) == 0) = z := ⟨_, rfl⟩
        cases z
        all_goals
          go_wp2
          go_roundw
          case rel => exact ⟨j + 1, n', x, L', A', by omega, by go_num, rfl, rfl, by omega, by omega, by omega, CV'.out, Xb.out.set4 _ _ _ _, below_set4 B33.out Gb.out _ _ _ _⟩
          case measure => simp [intOf]; omega
    · obtain rfl : j = a0 := by omega
      rcases A0.out with ⟨h0, h6⟩ | ⟨h0, h6⟩
      all_goals
        first | have hge : len0 ≤ j := by omega | have hge : 60 ≤ j := by omega
        have hj60 : j ≤ 60 := by omega
        clear h0
        go_wp2
        go_ret
        exact ⟨rfl, B20.out⟩
theorem bounds_walk (sz ev : Int) (x0 : Option Addr) (len0 cap0 : Nat) (z0 : List Int) (w : World) (hs : 0 ≤ sz ∧ sz ≤ 255) (he : 0 ≤ ev ∧ ev ≤ 255)
    (hl0 : z0.length = len0) (hnc : len0 ≤ cap0) (hcm : cap0 ≤ maxLen) (_ : x0 = none → cap0 = 0) (hLies : Lies w x0 (z0.map (Value.int .u8))) (hwf : ∀ n ∈ z0, (Lit.int .u8 n).wf = true) :
    Calls Try.prog 4 #[.int .u8 sz, .int .u8 ev, .slice x0 len0 cap0] w fun e w' => e = .returned (.bool true) ∧ Below w.heap.size w w' :=
  bounds_core sz ev x0 len0 cap0 z0 (sz % 8).toNat (1 + ev % 12).toNat w hs.1 hs.2 he.1 he.2 hl0 hnc hcm hLies hwf (by omega) (by omega)
end Go.Proofs.Ytldbhikempnhjaa
