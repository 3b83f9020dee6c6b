/- What Free, SetLimit and Fits do to the reference's arena, as contracts. -/
import Derived.Test.YtiandhfpdehicaaDoorArRefFind
import Derived.Deep.RegionHeld3
namespace Go.Proofs.YtiandhfpdehicaaDoor
open Go.RowKit
set_option linter.unusedVariables false

theorem rcells_put {l : List Blk} {i : Nat} (h : i < l.length) (t : List UInt8) : (rcells l).set (i * 4 + 3) (.string (str t)) = rcells (l.set i (ptb (bk l i) t)) := by
  obtain ⟨g1, g2, g3, g4⟩ := rcells_get h
  rw [← rcells_set, ptb]
  rw [set_self (rcells l) (i * 4) _ g1, set_self (rcells l) (i * 4 + 1) _ g2, set_self (rcells l) (i * 4 + 2) _ g3]

set_option maxHeartbeats 1600000 in
theorem refFree_any {w : World} {B g : Nat} {v : Value} {s : Ar} (h : RfAt w B g v s) (i : Nat) (gn : Int) (hi : i ≤ 4294967295) (hgn0 : 0 ≤ gn) (hgn1 : gn ≤ 4294967295) :
    Calls Tryd.prog 15 #[.pointer (some ⟨g, 0, none⟩), .agg #[.int .u32 i, .int .u32 gn]] w fun e w' => e = .returned (.bool (hit s.l i gn)) ∧ RfAt w' B g v (fro s i gn) ∧ Fr g v.ownBlock w w' := by
  have HA := Lib.hid (h.below (rboxed w (.int .u32 i) (.int .u32 gn)))
  cases hh : hit s.l i gn with
  | false =>
    have HH := Lib.hid hh
    have H := Lib.hid h
    clear hh h
    go_enter Tryd.func15, Tryd.ntmps15
    go_wp2_with fail
    refine (refLives_any HA.out i gn hi hgn0 hgn1).mono ?_
    rw [HH.out]
    rintro e w1 ⟨rfl, hb⟩
    have HB := Lib.hid ((rboxed w (.int .u32 i) (.int .u32 gn)).trans (hb.mono (by simp)))
    clear hb
    go_wp2
    go_ret
    exact ⟨rfl, by rw [fro, if_neg (by rw [HH.out]; decide)]; exact H.out.below HB.out, .of_below HB.out⟩
  | true =>
    have hl := hit_lt hh
    have hn := h.wf.len
    have hg := (hit_r hh).2
    obtain ⟨q, cap, rfl, hqg, hq, hcap, h0, h1, h2, h3, hfz⟩ := h.slot hl
    have hgl := h.lt
    have hc : w.cell? ⟨g, 2, none⟩ = some _ := h.blk.cell 2
    have HC := Lib.hid hc
    have Q0 := Lib.hid h0
    have Q1 := Lib.hid h1
    have Q2 := Lib.hid h2
    have Q3 := Lib.hid h3
    have HFZ := Lib.hid hfz
    have HH := Lib.hid hh
    have H := Lib.hid h
    have HL := Lib.hid hl
    have HG := Lib.hid hg
    have hi0 : (0 : Int) ≤ (i : Int) := by omega
    have hi1 : (i : Int) < (s.l.length : Int) := by omega
    clear hh h h0 h1 h2 h3 hfz hl hc hg
    go_enter Tryd.func15, Tryd.ntmps15
    go_wp2_with fail
    refine (refLives_any HA.out i gn hi hgn0 hgn1).mono ?_
    rw [HH.out]
    rintro e w1 ⟨rfl, hb⟩
    have hx := rboxed_at w w1 (.int .u32 i) (.int .u32 gn) hb
    have HB := Lib.hid ((rboxed w (.int .u32 i) (.int .u32 gn)).trans (hb.mono (by simp)))
    have e0 := hx.1
    have e1 := hx.2
    have e2 := (HB.out.cell (p := ⟨g, 2, none⟩) hgl).trans HC.out
    have d0 := (HB.out.cell (p := ⟨q, i * 4, none⟩) hq).trans Q0.out
    have d1 := (HB.out.cell (p := ⟨q, i * 4 + 1, none⟩) hq).trans Q1.out
    have d2 := (HB.out.cell (p := ⟨q, i * 4 + 2, none⟩) hq).trans Q2.out
    have d3 := (HB.out.cell (p := ⟨q, i * 4 + 3, none⟩) hq).trans Q3.out
    have f0 : ∀ j, w1.frozen? ⟨q, j, none⟩ = false := fun j => (HB.out.frozen (p := ⟨q, j, none⟩) hq).trans (HFZ.out j)
    clear hb hx
    go_wp2_with fail
    go_region
    go_wp2
    go_ret
    have hw := fro_wf H.out.wf i gn
    have H1 := H.out.below HB.out
    rw [fro, if_pos HH.out] at hw ⊢
    have hset := rcells_set s.l i (frb (bk s.l i))
    have hrow := ((((H1.row.stored (i * 4) (.int .u32 ((gn + 1) % 4294967296))).1.stored (i * 4 + 1) (.bool false)).1.stored (i * 4 + 2) (.int .i64 0)).1.stored (i * 4 + 3) (.string ⟨#[]⟩)).1
    have e9 : (((rcells s.l).set (i * 4) (.int .u32 ((gn + 1) % 4294967296))).set (i * 4 + 1) (.bool false)).set (i * 4 + 2) (.int .i64 0) = (((rcells s.l).set (i * 4) (.int .u32 (frb (bk s.l i)).g)).set (i * 4 + 1) (.bool ((frb (bk s.l i)).r != 0))).set (i * 4 + 2) (.int .i64 (frb (bk s.l i)).r) := by
      simp only [frb, HG.out]; rfl
    rw [e9] at hrow
    have hqg' : g ≠ q := fun e => hqg e.symm
    refine ⟨rfl, ⟨H1.low, H1.ne, hw, ?_, ?_⟩, (((((Fr.of_below HB.out).seto _ _).seto _ _).seto _ _).seto _ _).drew⟩
    · show World.ownsRow _ _ _ _ _ (s.l.set _ _).length _
      rw [List.length_set, ← hset]
      exact hrow
    · exact (Below.heap_setCell _ _ _ _ hqg').trans ((Below.heap_setCell _ _ _ _ hqg').trans ((Below.heap_setCell _ _ _ _ hqg').trans ((Below.heap_setCell _ _ _ _ hqg').trans H1.blk)))

set_option maxHeartbeats 800000 in
theorem refSetLimit_any {w : World} {B g : Nat} {v : Value} {s : Ar} (h : RfAt w B g v s) (n : Int) :
    Calls Tryd.prog 17 #[.pointer (some ⟨g, 0, none⟩), .int .i64 n] w fun e w' => e = .returned (.int .i64 (serr s n)) ∧ RfAt w' B g v (sto s n) ∧ Fr g none w w' := by
  have hc0 : w.cell? ⟨g, 0, none⟩ = some (.int .i64 s.cap) := h.blk.cell 0
  have hc1 : w.cell? ⟨g, 1, none⟩ = some (.int .i64 s.lim) := h.blk.cell 1
  have hf := h.blk.free 1
  have H := Lib.hid h
  clear h
  by_cases ha : n < 0
  · have HE : Hid (serr s n = 1) := Lib.hid (by unfold serr; rw [if_pos (.inl ha)])
    go_enter Tryd.func17, Tryd.ntmps17
    go_wp2
    go_ret
    exact ⟨ret_int HE.out.symm, by rw [sto, if_neg (by rw [HE.out]; decide)]; exact H.out, Fr.refl _ _ _⟩
  by_cases hb : s.cap < n
  · have HE : Hid (serr s n = 1) := Lib.hid (by unfold serr; rw [if_pos (.inr hb)])
    go_enter Tryd.func17, Tryd.ntmps17
    go_wp2
    go_ret
    exact ⟨ret_int HE.out.symm, by rw [sto, if_neg (by rw [HE.out]; decide)]; exact H.out, Fr.refl _ _ _⟩
  by_cases hc : n < chg s.l
  · have HE : Hid (serr s n = 9) := Lib.hid (by unfold serr; rw [if_neg (by omega), if_pos hc])
    go_enter Tryd.func17, Tryd.ntmps17
    go_wp2_with fail
    refine (refCharged_any H.out).mono ?_
    rintro e w' ⟨rfl, rfl⟩
    go_wp2
    go_ret
    exact ⟨ret_int HE.out.symm, by rw [sto, if_neg (by rw [HE.out]; decide)]; exact H.out, Fr.refl _ _ _⟩
  · have HE : Hid (serr s n = 0) := Lib.hid (by unfold serr; rw [if_neg (by omega), if_neg hc])
    go_enter Tryd.func17, Tryd.ntmps17
    go_wp2_with fail
    refine (refCharged_any H.out).mono ?_
    rintro e w' ⟨rfl, rfl⟩
    go_wp2
    go_ret
    refine ⟨ret_int HE.out.symm, ?_, (Fr.refl _ _ _).setg _ _⟩
    have hw := sto_wf H.out.wf n
    rw [sto, if_pos HE.out] at hw ⊢
    exact ⟨H.out.low, H.out.ne, hw, setg_owns H.out.row H.out.ne _ _, H.out.blk.put 1 _⟩

set_option maxHeartbeats 800000 in
theorem refFits_any {w : World} {B g : Nat} {v : Value} {s : Ar} (h : RfAt w B g v s) (A : Option Addr) (len cap : Nat) (ls : List Int) (hl : ls.length = len) (hm : len ≤ maxLen) (hr : Lies w A (ints ls)) :
    Calls Tryd.prog 19 #[.pointer (some ⟨g, 0, none⟩), .slice A len cap] w fun e w' => e = .returned (.bool (fits s ls)) ∧ Below w.heap.size w w' := by
  have b0 := chg_ge h.wf.ok
  have b1 : chg s.l ≤ 16777216 := by have := h.wf.chl; have := h.wf.limc; have := h.wf.cap1; omega
  have b3 := smv_bd ls
  have HS := Lib.hid (refSum_lies A len cap ls w hl hm hr)
  have hb4 := b3.1
  have hb5 := b3.2
  have H := Lib.hid h
  clear h b3 hr hl hm
  cases hk : smk ls with
  | false =>
    have HE : Hid (fits s ls = false) := Lib.hid (by rw [fits, hk]; rfl)
    have HK := Lib.hid hk
    clear hk
    go_enter Tryd.func19, Tryd.ntmps19
    go_wp2_with fail
    refine HS.out.mono ?_
    rintro e w1 ⟨rfl, hb⟩
    have HB := Lib.hid hb
    clear hb
    rw [HK.out]
    go_wp2_with fail
    go_quiet (fail)
    go_wp2
    go_ret
    exact ⟨ret_bool HE.out.symm, below_drewN HB.out _⟩
  | true =>
    have HK := Lib.hid hk
    have hw1 : IntKind.i64.wrap (chg s.l + smv ls) = chg s.l + smv ls := IntWalk.i64_in _ (by omega)
    by_cases hc : chg s.l + smv ls ≤ s.lim
    · have HE : Hid (fits s ls = true) := Lib.hid (by rw [fits, hk]; simp; omega)
      clear hk
      go_enter Tryd.func19, Tryd.ntmps19
      go_wp2_with fail
      refine HS.out.mono ?_
      rintro e w1 ⟨rfl, hb⟩
      have HB := Lib.hid hb
      have HW := Lib.hid (H.out.below hb)
      have hl1 : w1.cell? ⟨g, 1, none⟩ = some (.int .i64 s.lim) := HW.out.blk.cell 1
      clear hb
      rw [HK.out]
      go_wp2_with fail
      go_quiet ((go_at_call 21; exact Calls.quiet_of_same ((refCharged_any (HW.out.below (below_drewN (Below.refl _ _) _))).mono fun _ _ h => ⟨h.1, h.2.symm⟩)))
      go_wp2
      go_ret
      exact ⟨ret_bool HE.out.symm, below_drewN HB.out _⟩
    · have HE : Hid (fits s ls = false) := Lib.hid (by rw [fits, hk]; simp; omega)
      clear hk
      go_enter Tryd.func19, Tryd.ntmps19
      go_wp2_with fail
      refine HS.out.mono ?_
      rintro e w1 ⟨rfl, hb⟩
      have HB := Lib.hid hb
      have HW := Lib.hid (H.out.below hb)
      have hl1 : w1.cell? ⟨g, 1, none⟩ = some (.int .i64 s.lim) := HW.out.blk.cell 1
      clear hb
      rw [HK.out]
      go_wp2_with fail
      go_quiet ((go_at_call 21; exact Calls.quiet_of_same ((refCharged_any (HW.out.below (below_drewN (Below.refl _ _) _))).mono fun _ _ h => ⟨h.1, h.2.symm⟩)))
      go_wp2
      go_ret
      exact ⟨ret_bool (by rw [HE.out]; simpa using hc), below_drewN HB.out _⟩
end Go.Proofs.YtiandhfpdehicaaDoor
