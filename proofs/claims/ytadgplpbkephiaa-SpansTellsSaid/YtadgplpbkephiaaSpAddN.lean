/- A number added, with where the answer lies. -/
import Derived.Test.YtadgplpbkephiaaSpPutN
import Derived.Test.YtadgplpbkephiaaSpAdd
namespace Go.Proofs.Ytadgplpbkephiaa
open Go.RowKit
set_option linter.unusedVariables false

set_option maxHeartbeats 1000000 in
theorem join_anyN {w : World} {A : Option Addr} {n c : Nat} {S : List Sp} (h : Sl w A n c S) (i : Nat) (hi : i + 1 < n) (hn5 : n ≤ 5) :
    Calls Try.prog 26 #[.slice A n c, .int .i64 i] w fun e w' => ∃ A d, e = .returned (.slice A (n - 1) d) ∧ Sl w' A (n - 1) d (joinS S i) ∧ Below w.heap.size w w' ∧ Nw w.heap.size A := by
  have hn := h.le
  have hm := h.max
  have hl := h.len
  unfold maxLen at hm
  obtain ⟨b, off, rfl, hg, hc⟩ := h.all (by omega)
  obtain ⟨k, hk⟩ : ∃ k, i + 1 = k := ⟨_, rfl⟩
  obtain ⟨q, hq⟩ : ∃ q, i + 2 = q := ⟨_, rfl⟩
  have hJ := joinS_at S i (by omega)
  rw [hk, hq] at hJ
  have c1 := (hc i (by omega)).1
  have c2 := (hc k (by omega)).2
  generalize (sp S i).1 = x at *
  generalize (sp S k).2 = y at *
  obtain ⟨ad, had⟩ : ∃ ad : Addr, (if c = q then some (⟨b, off, none⟩ : Addr) else some ⟨b, off + q * 2, none⟩) = some ad := by split <;> exact ⟨_, rfl⟩
  have hb1 : Below w.heap.size w (w.drew.alloc (.cells #[.int .i64 x, .int .i64 y] 43)) := ((Below.refl _ _).drew).alloc (Nat.le_refl _) _
  have HC := concat_threeN (w := w.drew.alloc (.cells #[.int .i64 x, .int .i64 y] 43)) ((h.pre i (by omega)).below hb1) (show Sl (w.drew.alloc (.cells #[.int .i64 x, .int .i64 y] 43)) (some ⟨w.heap.size, 0, none⟩) 1 1 [(x, y)] from sl_one w.drew x y) ((h.suf q (by omega) (ad := ad) (fun hlt => by rw [if_neg (by omega)] at had; exact (Option.some.inj had).symm)).below hb1) (by omega) (by omega)
  rw [show S.take i ++ [(x, y)] ++ S.drop q = joinS S i by rw [hJ]; simp, show i + 1 + (n - q) = n - 1 by omega] at HC
  rw [show (w.drew.alloc (.cells #[.int .i64 x, .int .i64 y] 43)).heap.size = w.heap.size + 1 by simp] at HC
  have HCC := Lib.hid HC
  have HB1 := Lib.hid hb1
  have hkn : k < n := by omega
  have hqn : q ≤ n := by omega
  have hin : i < n := by omega
  have hic : i ≤ c := by omega
  have a1 : IntKind.i64.wrap ((i : Int) + 1) = (k : Int) := by rw [IntWalk.i64_in _ (by omega)]; omega
  have a2 : (i : Int) + 1 = (k : Int) := by omega
  have a3 : IntKind.i64.wrap (k : Int) = (k : Int) := IntWalk.i64_in _ (by omega)
  have a4 : IntKind.i64.wrap ((i : Int) + 2) = (q : Int) := by rw [IntWalk.i64_in _ (by omega)]; omega
  have a5 : (i : Int) + 2 = (q : Int) := by omega
  have a6 : IntKind.i64.wrap (q : Int) = (q : Int) := IntWalk.i64_in _ (by omega)
  clear HC hb1 h hJ hc hk hq hi
  go_enter Try.func26, Try.ntmps26
  go_wp2_with fail
  go_region_law (go_simp; go_at_call 29; refine HCC.out.mono ?_; rintro e w2 ⟨D, d, rfl, hsl, hb2, hnw⟩)
  all_goals
    have HF := Lib.hid (And.intro hsl (And.intro (HB1.out.trans (hb2.mono (Nat.le_succ _))) (hnw.mono (Nat.le_succ _))))
    clear hsl hb2 hnw
    go_wp2
    go_ret
    exact ⟨D, d, rfl, HF.out⟩
/-- What Add returns: intervals that are S, where the elder ones lie, or in a new block. -/
def GotN (A : Option Addr) (n : Nat) (S : List Sp) (w : World) (e : Ending) (w' : World) : Prop := ∃ B m d, e = .returned (.agg #[.slice B m d]) ∧ Sl w' B m d S ∧ Below w.heap.size w w' ∧ ((B = A ∧ m = n) ∨ Nw w.heap.size B)
set_option maxHeartbeats 1000000 in
theorem add_notN {w : World} {A : Option Addr} {n c : Nat} {S : List Sp} (h : Sl w A n c S) (v : Int) (hr : decide (Rgt S) = false) :
    Calls Try.prog 11 #[.agg #[.slice A n c], .int .i64 v] w fun e w' => GotN A n S w e w' := by
  have K0 := Ad.start (t := 24) h
  generalize hW : (w.alloc (.cells #[.slice A n c] 24)).alloc (.cells #[.slice none 0 0] 24) = W0 at K0
  have HW := Lib.hid hW
  have HR := Lib.hid (right_any K0.sl)
  rw [hr] at HR
  have HK := Lib.hid K0
  have x0 := K0.box.cell 0
  clear h hr K0
  go_enter Try.func11, Try.ntmps11
  go_wp2_with fail
  refine HR.out.mono ?_
  rintro e w1 ⟨rfl, b1⟩
  have HK1 := Lib.hid (HK.out.next b1)
  have x1 := HK1.out.box.cell 0
  have y1 := HK1.out.res.cell 0
  have z1 := HK1.out.res.free 0
  obtain ⟨w2, h2, hr2, hs2, hb2⟩ := HK1.out.store HK1.out.sl
  have HE := Lib.hid (And.intro hr2 (And.intro hs2 hb2))
  have hc2 := hr2.cell 0
  clear b1 hr2 hs2 hb2
  go_wp2
  refine bodyPost_ret (v := .agg #[.slice A n c]) (by simp [results, Try.results11, go_sem, hc2]) rfl ?_
  exact ⟨A, n, c, rfl, HE.out.2.1, HE.out.2.2, .inl ⟨rfl, rfl⟩⟩
set_option maxHeartbeats 1000000 in
theorem add_hasN {w : World} {A : Option Addr} {n c : Nat} {S : List Sp} (h : Sl w A n c S) (v : Int) (hr : decide (Rgt S) = true) (hh : hs S v = true) :
    Calls Try.prog 11 #[.agg #[.slice A n c], .int .i64 v] w fun e w' => GotN A n S w e w' := by
  have K0 := Ad.start (t := 24) h
  generalize hW : (w.alloc (.cells #[.slice A n c] 24)).alloc (.cells #[.slice none 0 0] 24) = W0 at K0
  have HW := Lib.hid hW
  have HR := Lib.hid (right_any K0.sl)
  rw [hr] at HR
  have HK := Lib.hid K0
  have x0 := K0.box.cell 0
  clear h hr K0
  go_enter Try.func11, Try.ntmps11
  go_wp2_with fail
  refine HR.out.mono ?_
  rintro e w1 ⟨rfl, b1⟩
  have HK1 := Lib.hid (HK.out.next b1)
  have x1 := HK1.out.box.cell 0
  have HH := Lib.hid (has_any HK1.out.sl v)
  rw [hh] at HH
  clear b1 hh x0
  go_wp2_with fail
  refine HH.out.mono ?_
  rintro e w2 ⟨rfl, b2⟩
  have HK2 := Lib.hid (HK1.out.next b2)
  have x2 := HK2.out.box.cell 0
  clear b2 HK1 x1 HK HR HH
  have y2 := HK2.out.res.cell 0
  have z2 := HK2.out.res.free 0
  obtain ⟨w3, h3, hr3, hs3, hb3⟩ := HK2.out.store HK2.out.sl
  have HE := Lib.hid (And.intro hs3 hb3)
  have hc3 := hr3.cell 0
  clear hr3 hs3 hb3
  go_wp2
  refine bodyPost_ret (v := .agg #[.slice A n c]) (by simp [results, Try.results11, go_sem, hc3]) rfl ?_
  exact ⟨A, n, c, rfl, HE.out.1, HE.out.2, .inl ⟨rfl, rfl⟩⟩
set_option maxHeartbeats 1000000 in
theorem add_fewN {w : World} {A : Option Addr} {n c : Nat} {S : List Sp} (h : Sl w A n c S) (v : Int) (hr : decide (Rgt S) = true) (hh : hs S v = false) (hn : n < 4) :
    Calls Try.prog 11 #[.agg #[.slice A n c], .int .i64 v] w fun e w' => GotN A n (putS S v) w e w' := by
  have K0 := Ad.start (t := 24) h
  generalize hW : (w.alloc (.cells #[.slice A n c] 24)).alloc (.cells #[.slice none 0 0] 24) = W0 at K0
  have HW := Lib.hid hW
  have HR := Lib.hid (right_any K0.sl)
  rw [hr] at HR
  have HK := Lib.hid K0
  have x0 := K0.box.cell 0
  clear h hr K0
  go_enter Try.func11, Try.ntmps11
  go_wp2_with fail
  refine HR.out.mono ?_
  rintro e w1 ⟨rfl, b1⟩
  have HK1 := Lib.hid (HK.out.next b1)
  have x1 := HK1.out.box.cell 0
  have HH := Lib.hid (has_any HK1.out.sl v)
  rw [hh] at HH
  clear b1 hh x0
  go_wp2_with fail
  refine HH.out.mono ?_
  rintro e w2 ⟨rfl, b2⟩
  have HK2 := Lib.hid (HK1.out.next b2)
  have x2 := HK2.out.box.cell 0
  clear b2 HK1 x1 HK HR HH
  have HP := Lib.hid (put_anyN HK2.out.sl v (by omega))
  go_wp2_with fail
  refine HP.out.mono ?_
  rintro e w3 ⟨B, d, rfl, hs, b3, hnw⟩
  have HNW := Lib.hid (hnw.mono HK2.out.bel.size)
  clear hnw
  have HK3 := Lib.hid (HK2.out.next b3)
  have y2 := HK3.out.res.cell 0
  have z2 := HK3.out.res.free 0
  obtain ⟨w4, h4, hr4, hs4, hb4⟩ := HK3.out.store hs
  have HE := Lib.hid (And.intro hs4 hb4)
  have hc4 := hr4.cell 0
  have hn4 : ¬ (4 : Int) < (n : Int) + 1 := by omega
  clear hr4 hs4 hb4 b3 hs x2 HP HK2
  go_wp2
  refine bodyPost_ret (v := .agg #[.slice B (n + 1) d]) (by simp [results, Try.results11, go_sem, hc4]) rfl ?_
  exact ⟨B, n + 1, d, rfl, HE.out.1, HE.out.2, .inr HNW.out⟩
set_option maxHeartbeats 1000000 in
theorem add_manyN {w : World} {A : Option Addr} {c : Nat} {S : List Sp} (h : Sl w A 4 c S) (v : Int) (hr : decide (Rgt S) = true) (hh : hs S v = false) (k : Nat) (hk : near (putS S v) 4 = k) :
    Calls Try.prog 11 #[.agg #[.slice A 4 c], .int .i64 v] w fun e w' => GotN A 4 (joinS (putS S v) k) w e w' := by
  have K0 := Ad.start (t := 24) h
  generalize hW : (w.alloc (.cells #[.slice A 4 c] 24)).alloc (.cells #[.slice none 0 0] 24) = W0 at K0
  have HW := Lib.hid hW
  have HR := Lib.hid (right_any K0.sl)
  rw [hr] at HR
  have HK := Lib.hid K0
  have x0 := K0.box.cell 0
  clear h hr K0
  go_enter Try.func11, Try.ntmps11
  go_wp2_with fail
  refine HR.out.mono ?_
  rintro e w1 ⟨rfl, b1⟩
  have HK1 := Lib.hid (HK.out.next b1)
  have x1 := HK1.out.box.cell 0
  have HH := Lib.hid (has_any HK1.out.sl v)
  rw [hh] at HH
  clear b1 hh x0
  go_wp2_with fail
  refine HH.out.mono ?_
  rintro e w2 ⟨rfl, b2⟩
  have HK2 := Lib.hid (HK1.out.next b2)
  have x2 := HK2.out.box.cell 0
  clear b2 HK1 x1 HK HR HH
  have HP := Lib.hid (put_anyN HK2.out.sl v (by omega))
  go_wp2_with fail
  refine HP.out.mono ?_
  rintro e w3 ⟨B, d, rfl, hs, b3, hnw⟩
  have HNW := Lib.hid (hnw.mono HK2.out.bel.size)
  clear hnw
  have HK3 := Lib.hid (HK2.out.next b3)
  have HN := Lib.hid (near_any hs (by omega) (by omega))
  have hnl := (near_lt (putS S v) 4).2 (by omega)
  rw [show 4 + 1 - 1 = 4 by omega] at HN
  rw [hk] at HN hnl
  have HS3 := Lib.hid hs
  clear b3 hs x2 HP HK2
  go_wp2_with fail
  refine HN.out.mono ?_
  rintro e w4 ⟨rfl, b4⟩
  have HK4 := Lib.hid (HK3.out.next b4)
  have HJ := Lib.hid (join_anyN (HS3.out.below b4) k (by omega) (by omega))
  rw [show 4 + 1 - 1 = 4 by omega] at HJ
  clear b4 HK3 HN HS3
  go_wp2_with fail
  refine HJ.out.mono ?_
  rintro e w5 ⟨E, f, rfl, hs5, b5, hnw⟩
  have HNW5 := Lib.hid (hnw.mono HK4.out.bel.size)
  clear hnw
  have HK5 := Lib.hid (HK4.out.next b5)
  have y2 := HK5.out.res.cell 0
  have z2 := HK5.out.res.free 0
  obtain ⟨w6, h6, hr6, hs6, hb6⟩ := HK5.out.store hs5
  have HE := Lib.hid (And.intro hs6 hb6)
  have hc6 := hr6.cell 0
  clear hr6 hs6 hb6 b5 hs5
  go_wp2
  refine bodyPost_ret (v := .agg #[.slice E 4 f]) (by simp [results, Try.results11, go_sem, hc6]) rfl ?_
  exact ⟨E, 4, f, rfl, HE.out.1, HE.out.2, .inr HNW5.out⟩
theorem add_anyN {w : World} {A : Option Addr} {n c : Nat} {S : List Sp} (h : Sl w A n c S) (v : Int) :
    Calls Try.prog 11 #[.agg #[.slice A n c], .int .i64 v] w fun e w' => GotN A n (addS S v) w e w' := by
  by_cases hr : Rgt S
  · cases hh : hs S v with
    | true => rw [addS_has hh]; exact add_hasN h v (decide_eq_true hr) hh
    | false =>
      have hl := h.len
      rcases Nat.lt_or_ge S.length 4 with h4 | h4
      · rw [addS_put hr hh h4]; exact add_fewN h v (decide_eq_true hr) hh (by omega)
      · have h5 : S.length = 4 := by have := hr.1; omega
        obtain rfl : n = 4 := by omega
        rw [addS_join hr hh h5]; exact add_manyN h v (decide_eq_true hr) hh _ rfl
  · rw [addS_not hr]; exact add_notN h v (decide_eq_false hr)
end Go.Proofs.Ytadgplpbkephiaa
