/- A number added. -/
import Derived.Test.YtadgplpbkephiaaSpJoin
namespace Go.Proofs.Ytadgplpbkephiaa
open Go.RowKit
set_option linter.unusedVariables false

/-- What Add returns: intervals that are S. -/
def Got (S : List Sp) (w : World) (e : Ending) (w' : World) : Prop := ∃ B m d, e = .returned (.agg #[.slice B m d]) ∧ Sl w' B m d S ∧ Below w.heap.size w w'
/-- What Add has made ahead: a box with s, and one for what it returns. -/
structure Ad (w w' : World) (A : Option Addr) (n c : Nat) (t : TypeId) (S : List Sp) : Prop where
  sl : Sl w' A n c S
  box : Has w' w.heap.size t #[.slice A n c]
  res : Has w' (w.heap.size + 1) t #[.slice none 0 0]
  bel : Below w.heap.size w w'
theorem Ad.start {w : World} {A : Option Addr} {n c : Nat} {t : TypeId} {S : List Sp} (h : Sl w A n c S) : Ad w ((w.alloc (.cells #[.slice A n c] t)).alloc (.cells #[.slice none 0 0] t)) A n c t S := by
  have hb1 : Below w.heap.size w (w.alloc (.cells #[.slice A n c] t)) := (Below.refl _ _).alloc (Nat.le_refl _) _
  have hb2 : Below w.heap.size w ((w.alloc (.cells #[.slice A n c] t)).alloc (.cells #[.slice none 0 0] t)) := hb1.alloc hb1.size _
  have hx : Has (w.alloc (.cells #[.slice A n c] t)) w.heap.size t #[.slice A n c] := heap_alloc_new w _
  have hy : Has ((w.alloc (.cells #[.slice A n c] t)).alloc (.cells #[.slice none 0 0] t)) (w.heap.size + 1) t #[.slice none 0 0] := by
    have := heap_alloc_new (w.alloc (.cells #[.slice A n c] t)) (.cells #[.slice none 0 0] t)
    simpa [Has] using this
  exact ⟨h.below hb2, hx.below ((Below.refl _ _).alloc (Nat.le_refl _) _) hx.lt, hy, hb2⟩
theorem Ad.next {w w1 w2 : World} {A : Option Addr} {n c : Nat} {t : TypeId} {S : List Sp} (k : Ad w w1 A n c t S) (h : Below w1.heap.size w1 w2) : Ad w w2 A n c t S :=
  ⟨k.sl.below h, k.box.below h k.box.lt, k.res.below h k.res.lt, k.bel.trans (h.mono k.bel.size)⟩
theorem Ad.nextd {w w1 w2 : World} {A : Option Addr} {n c : Nat} {t : TypeId} {S : List Sp} (k : Ad w w1 A n c t S) (h : Below w1.drew.heap.size w1.drew w2) : Ad w w2 A n c t S := k.next ((Below.refl _ _).drew.trans h)
/-- What is stored last. -/
theorem Ad.store {w w1 : World} {A : Option Addr} {n c : Nat} {t : TypeId} {S : List Sp} (k : Ad w w1 A n c t S) {B : Option Addr} {m d : Nat} {T : List Sp} (h : Sl w1 B m d T) :
    ∃ w2, w1.setCell ⟨w.heap.size + 1, 0, none⟩ (.slice B m d) = w2 ∧ Has w2 (w.heap.size + 1) t #[.slice B m d] ∧ Sl w2 B m d T ∧ Below w.heap.size w w2 := by
  refine ⟨_, rfl, ?_, ⟨h.len, fun i u hu => ?_, h.nil, h.le, h.max, h.shp⟩, k.bel.setCell (Nat.le_succ _) _⟩
  · have := k.res.put 0 (.slice B m d)
    simpa using this
  · obtain ⟨b, off, e, hc⟩ := h.lies.at_ hu
    obtain ⟨x, e', hx⟩ := h.lies i u hu
    refine ⟨x, e', ?_⟩
    have hm : 0 < m := by
      have := h.len
      rcases Nat.eq_zero_or_pos m with h0 | h0
      · have : T = [] := List.eq_nil_of_length_eq_zero (by omega)
        subst this; simp [icells] at hu
      · exact h0
    have hne : b ≠ w.heap.size + 1 := fun eb => by
      obtain ⟨b', off', e2, -, h1, -⟩ := h.cel 0 hm
      rw [e] at e2
      cases e2
      subst eb
      rw [k.res.cell] at h1
      match off, h1 with
      | 0, h1 => simp at h1
      | off + 1, h1 => simp at h1
    rw [e] at e'
    obtain rfl := Option.some.inj e'
    rw [← hx]
    exact World.cell?_of_block (Below.heap_setCell _ _ _ _ (by simpa [Addr.add] using (show (Addr.add ⟨b, off, none⟩ i).block ≠ _ by unfold Addr.add; split <;> exact hne)))
set_option maxHeartbeats 1000000 in
theorem add_not {w : World} {A : Option Addr} {n c : Nat} {S : List Sp} (h : Sl w A n c S) (v : Int) (hr : decide (Rgt S) = false) :
    Calls Try.prog 11 #[.agg #[.slice A n c], .int .i64 v] w fun e w' => Got S w e w' := by
  have K0 := Ad.start (t := 24) h
  generalize hW : (w.alloc (.cells #[.slice A n c] 24)).alloc (.cells #[.slice none 0 0] 24) = W0 at K0
  have HW := Lib.hid hW
  have HR := Lib.hid (right_any K0.sl)
  rw [hr] at HR
  have HK := Lib.hid K0
  have x0 := K0.box.cell 0
  clear h hr K0
  go_enter Try.func11, Try.ntmps11
  go_wp2_with fail
  refine HR.out.mono ?_
  rintro e w1 ⟨rfl, b1⟩
  have HK1 := Lib.hid (HK.out.next b1)
  have x1 := HK1.out.box.cell 0
  have y1 := HK1.out.res.cell 0
  have z1 := HK1.out.res.free 0
  obtain ⟨w2, h2, hr2, hs2, hb2⟩ := HK1.out.store HK1.out.sl
  have HE := Lib.hid (And.intro hr2 (And.intro hs2 hb2))
  have hc2 := hr2.cell 0
  clear b1 hr2 hs2 hb2
  go_wp2
  refine bodyPost_ret (v := .agg #[.slice A n c]) (by simp [results, Try.results11, go_sem, hc2]) rfl ?_
  exact ⟨A, n, c, rfl, HE.out.2.1, HE.out.2.2⟩
set_option maxHeartbeats 1000000 in
theorem add_has {w : World} {A : Option Addr} {n c : Nat} {S : List Sp} (h : Sl w A n c S) (v : Int) (hr : decide (Rgt S) = true) (hh : hs S v = true) :
    Calls Try.prog 11 #[.agg #[.slice A n c], .int .i64 v] w fun e w' => Got S w e w' := by
  have K0 := Ad.start (t := 24) h
  generalize hW : (w.alloc (.cells #[.slice A n c] 24)).alloc (.cells #[.slice none 0 0] 24) = W0 at K0
  have HW := Lib.hid hW
  have HR := Lib.hid (right_any K0.sl)
  rw [hr] at HR
  have HK := Lib.hid K0
  have x0 := K0.box.cell 0
  clear h hr K0
  go_enter Try.func11, Try.ntmps11
  go_wp2_with fail
  refine HR.out.mono ?_
  rintro e w1 ⟨rfl, b1⟩
  have HK1 := Lib.hid (HK.out.next b1)
  have x1 := HK1.out.box.cell 0
  have HH := Lib.hid (has_any HK1.out.sl v)
  rw [hh] at HH
  clear b1 hh x0
  go_wp2_with fail
  refine HH.out.mono ?_
  rintro e w2 ⟨rfl, b2⟩
  have HK2 := Lib.hid (HK1.out.next b2)
  have x2 := HK2.out.box.cell 0
  clear b2 HK1 x1 HK HR HH
  have y2 := HK2.out.res.cell 0
  have z2 := HK2.out.res.free 0
  obtain ⟨w3, h3, hr3, hs3, hb3⟩ := HK2.out.store HK2.out.sl
  have HE := Lib.hid (And.intro hs3 hb3)
  have hc3 := hr3.cell 0
  clear hr3 hs3 hb3
  go_wp2
  refine bodyPost_ret (v := .agg #[.slice A n c]) (by simp [results, Try.results11, go_sem, hc3]) rfl ?_
  exact ⟨A, n, c, rfl, HE.out.1, HE.out.2⟩
set_option maxHeartbeats 1000000 in
theorem add_few {w : World} {A : Option Addr} {n c : Nat} {S : List Sp} (h : Sl w A n c S) (v : Int) (hr : decide (Rgt S) = true) (hh : hs S v = false) (hn : n < 4) :
    Calls Try.prog 11 #[.agg #[.slice A n c], .int .i64 v] w fun e w' => Got (putS S v) w e w' := by
  have K0 := Ad.start (t := 24) h
  generalize hW : (w.alloc (.cells #[.slice A n c] 24)).alloc (.cells #[.slice none 0 0] 24) = W0 at K0
  have HW := Lib.hid hW
  have HR := Lib.hid (right_any K0.sl)
  rw [hr] at HR
  have HK := Lib.hid K0
  have x0 := K0.box.cell 0
  clear h hr K0
  go_enter Try.func11, Try.ntmps11
  go_wp2_with fail
  refine HR.out.mono ?_
  rintro e w1 ⟨rfl, b1⟩
  have HK1 := Lib.hid (HK.out.next b1)
  have x1 := HK1.out.box.cell 0
  have HH := Lib.hid (has_any HK1.out.sl v)
  rw [hh] at HH
  clear b1 hh x0
  go_wp2_with fail
  refine HH.out.mono ?_
  rintro e w2 ⟨rfl, b2⟩
  have HK2 := Lib.hid (HK1.out.next b2)
  have x2 := HK2.out.box.cell 0
  clear b2 HK1 x1 HK HR HH
  have HP := Lib.hid (put_any HK2.out.sl v (by omega))
  go_wp2_with fail
  refine HP.out.mono ?_
  rintro e w3 ⟨B, d, rfl, hs, b3⟩
  have HK3 := Lib.hid (HK2.out.next b3)
  have y2 := HK3.out.res.cell 0
  have z2 := HK3.out.res.free 0
  obtain ⟨w4, h4, hr4, hs4, hb4⟩ := HK3.out.store hs
  have HE := Lib.hid (And.intro hs4 hb4)
  have hc4 := hr4.cell 0
  have hn4 : ¬ (4 : Int) < (n : Int) + 1 := by omega
  clear hr4 hs4 hb4 b3 hs x2 HP HK2
  go_wp2
  refine bodyPost_ret (v := .agg #[.slice B (n + 1) d]) (by simp [results, Try.results11, go_sem, hc4]) rfl ?_
  exact ⟨B, n + 1, d, rfl, HE.out.1, HE.out.2⟩
set_option maxHeartbeats 1000000 in
theorem add_many {w : World} {A : Option Addr} {c : Nat} {S : List Sp} (h : Sl w A 4 c S) (v : Int) (hr : decide (Rgt S) = true) (hh : hs S v = false) (k : Nat) (hk : near (putS S v) 4 = k) :
    Calls Try.prog 11 #[.agg #[.slice A 4 c], .int .i64 v] w fun e w' => Got (joinS (putS S v) k) w e w' := by
  have K0 := Ad.start (t := 24) h
  generalize hW : (w.alloc (.cells #[.slice A 4 c] 24)).alloc (.cells #[.slice none 0 0] 24) = W0 at K0
  have HW := Lib.hid hW
  have HR := Lib.hid (right_any K0.sl)
  rw [hr] at HR
  have HK := Lib.hid K0
  have x0 := K0.box.cell 0
  clear h hr K0
  go_enter Try.func11, Try.ntmps11
  go_wp2_with fail
  refine HR.out.mono ?_
  rintro e w1 ⟨rfl, b1⟩
  have HK1 := Lib.hid (HK.out.next b1)
  have x1 := HK1.out.box.cell 0
  have HH := Lib.hid (has_any HK1.out.sl v)
  rw [hh] at HH
  clear b1 hh x0
  go_wp2_with fail
  refine HH.out.mono ?_
  rintro e w2 ⟨rfl, b2⟩
  have HK2 := Lib.hid (HK1.out.next b2)
  have x2 := HK2.out.box.cell 0
  clear b2 HK1 x1 HK HR HH
  have HP := Lib.hid (put_any HK2.out.sl v (by omega))
  go_wp2_with fail
  refine HP.out.mono ?_
  rintro e w3 ⟨B, d, rfl, hs, b3⟩
  have HK3 := Lib.hid (HK2.out.next b3)
  have HN := Lib.hid (near_any hs (by omega) (by omega))
  have hnl := (near_lt (putS S v) 4).2 (by omega)
  rw [show 4 + 1 - 1 = 4 by omega] at HN
  rw [hk] at HN hnl
  have HS3 := Lib.hid hs
  clear b3 hs x2 HP HK2
  go_wp2_with fail
  refine HN.out.mono ?_
  rintro e w4 ⟨rfl, b4⟩
  have HK4 := Lib.hid (HK3.out.next b4)
  have HJ := Lib.hid (join_any (HS3.out.below b4) k (by omega) (by omega))
  rw [show 4 + 1 - 1 = 4 by omega] at HJ
  clear b4 HK3 HN HS3
  go_wp2_with fail
  refine HJ.out.mono ?_
  rintro e w5 ⟨E, f, rfl, hs5, b5⟩
  have HK5 := Lib.hid (HK4.out.next b5)
  have y2 := HK5.out.res.cell 0
  have z2 := HK5.out.res.free 0
  obtain ⟨w6, h6, hr6, hs6, hb6⟩ := HK5.out.store hs5
  have HE := Lib.hid (And.intro hs6 hb6)
  have hc6 := hr6.cell 0
  clear hr6 hs6 hb6 b5 hs5
  go_wp2
  refine bodyPost_ret (v := .agg #[.slice E 4 f]) (by simp [results, Try.results11, go_sem, hc6]) rfl ?_
  exact ⟨E, 4, f, rfl, HE.out.1, HE.out.2⟩
theorem add_any {w : World} {A : Option Addr} {n c : Nat} {S : List Sp} (h : Sl w A n c S) (v : Int) :
    Calls Try.prog 11 #[.agg #[.slice A n c], .int .i64 v] w fun e w' => Got (addS S v) w e w' := by
  by_cases hr : Rgt S
  · cases hh : hs S v with
    | true => rw [addS_has hh]; exact add_has h v (decide_eq_true hr) hh
    | false =>
      have hl := h.len
      rcases Nat.lt_or_ge S.length 4 with h4 | h4
      · rw [addS_put hr hh h4]; exact add_few h v (decide_eq_true hr) hh (by omega)
      · have h5 : S.length = 4 := by have := hr.1; omega
        obtain rfl : n = 4 := by omega
        rw [addS_join hr hh h5]; exact add_many h v (decide_eq_true hr) hh _ rfl
  · rw [addS_not hr]; exact add_not h v (decide_eq_false hr)
end Go.Proofs.Ytadgplpbkephiaa
