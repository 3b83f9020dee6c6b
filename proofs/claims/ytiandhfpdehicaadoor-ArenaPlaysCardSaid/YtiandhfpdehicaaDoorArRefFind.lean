/- What a handle finds in the reference's arena, as contracts: lives, Get, Put, Free; SetLimit and Fits. -/
import Derived.Test.YtiandhfpdehicaaDoorArRefMem
import Derived.Test.YtiandhfpdehicaaDoorArHs
namespace Go.Proofs.YtiandhfpdehicaaDoor
open Go.RowKit
set_option linter.unusedVariables false

theorem rboxed (w : World) (a b : Value) : Below w.heap.size w (w.alloc (.cells #[a, b] 35)) := (Below.refl _ _).alloc (Nat.le_refl _) _
theorem rboxed_at (w w1 : World) (a b : Value) (hb : Below (w.alloc (.cells #[a, b] 35)).heap.size (w.alloc (.cells #[a, b] 35)) w1) : w1.cell? ⟨w.heap.size, 0, none⟩ = some a ∧ w1.cell? ⟨w.heap.size, 1, none⟩ = some b := by
  have h := heap_alloc_new w (.cells #[a, b] 35)
  have hl : w.heap.size < (w.alloc (.cells #[a, b] 35)).heap.size := by simp
  constructor
  · rw [hb.cell (p := ⟨w.heap.size, 0, none⟩) hl]; exact cell_of_row _ _ 0 _ _ _ h
  · rw [hb.cell (p := ⟨w.heap.size, 1, none⟩) hl]; exact cell_of_row _ _ 1 _ _ _ h

set_option maxHeartbeats 1600000 in
theorem refLives_any {w : World} {B g : Nat} {v : Value} {s : Ar} (h : RfAt w B g v s) (i : Nat) (gn : Int) (hi : i ≤ 4294967295) (hgn0 : 0 ≤ gn) (hgn1 : gn ≤ 4294967295) :
    Calls Tryd.prog 30 #[.pointer (some ⟨g, 0, none⟩), .agg #[.int .u32 i, .int .u32 gn]] w fun e w' => e = .returned (.bool (hit s.l i gn)) ∧ Below w.heap.size w w' := by
  have hn := h.wf.len
  have hc : w.cell? ⟨g, 2, none⟩ = some v := h.blk.cell 2
  have hlt := h.lt
  by_cases hl : i < s.l.length
  · obtain ⟨q, cap, rfl, hqg, hq, hcap, hg, hv, _, _, _⟩ := h.slot hl
    have hok := h.wf.ok.at_ i
    have hg1 := hok.2.2.1
    have hg2 := hok.2.2.2
    have HH : Hid (hit s.l i gn = ((bk s.l i).r != 0 && (bk s.l i).g == gn)) := Lib.hid rfl
    clear h hok
    generalize bk s.l i = b at *
    generalize s.l.length = n at *
    have hi0 : (0 : Int) ≤ (i : Int) := by omega
    have hi1 : (i : Int) < (n : Int) := by omega
    by_cases h0 : b.r = 0
    · have h7 : (b.r != 0) = false := by simpa using h0
      rw [h7] at hv
      have HE : Hid (hit s.l i gn = false) := Lib.hid (by rw [HH.out, h7]; rfl)
      clear h0 h7 HH
      go_enter Tryd.func30, Tryd.ntmps30
      go_wp2
      go_quiet (fail)
      go_wp2
      go_ret
      exact ⟨ret_bool HE.out.symm, below_drewN ((Below.refl _ _).alloc (Nat.le_refl _) _) _⟩
    · have h7 : (b.r != 0) = true := by simpa using h0
      rw [h7] at hv
      by_cases hgg : b.g = gn
      · have h8 : (b.g == gn) = true := by simpa using hgg
        have HE : Hid (hit s.l i gn = true) := Lib.hid (by rw [HH.out, h7, h8]; rfl)
        clear h0 h7 HH hgg
        go_enter Tryd.func30, Tryd.ntmps30
        go_wp2
        go_quiet (fail)
        go_wp2
        go_ret
        exact ⟨ret_bool HE.out.symm, below_drewN ((Below.refl _ _).alloc (Nat.le_refl _) _) _⟩
      · have h8 : (b.g == gn) = false := by simpa using hgg
        have HE : Hid (hit s.l i gn = false) := Lib.hid (by rw [HH.out, h7, h8]; rfl)
        clear h0 h7 HH hgg
        go_enter Tryd.func30, Tryd.ntmps30
        go_wp2
        go_quiet (fail)
        go_wp2
        go_ret
        exact ⟨ret_bool HE.out.symm, below_drewN ((Below.refl _ _).alloc (Nat.le_refl _) _) _⟩
  · obtain ⟨A, c, rfl⟩ := own_slice h.row
    have HE : Hid (hit s.l i gn = false) := Lib.hid (by rw [hit, bk_ge (by omega)]; rfl)
    clear h
    generalize s.l.length = n at *
    have hd : decide ((i : Int) < (n : Int)) = false := decide_eq_false (by omega)
    have hd2 : decide (i < n) = false := decide_eq_false hl
    go_enter Tryd.func30, Tryd.ntmps30
    go_wp2
    go_quiet (fail)
    go_wp2
    go_ret
    exact ⟨ret_bool HE.out.symm, below_drewN ((Below.refl _ _).alloc (Nat.le_refl _) _) _⟩

set_option maxHeartbeats 800000 in
theorem refGet_any {w : World} {B g : Nat} {v : Value} {s : Ar} (h : RfAt w B g v s) (i : Nat) (gn : Int) (hi : i ≤ 4294967295) (hgn0 : 0 ≤ gn) (hgn1 : gn ≤ 4294967295) :
    Calls Tryd.prog 11 #[.pointer (some ⟨g, 0, none⟩), .agg #[.int .u32 i, .int .u32 gn]] w fun e w' => e = .returned (.tuple #[.string (str (got s i gn)), .bool (hit s.l i gn)]) ∧ Below w.heap.size w w' := by
  have HA := Lib.hid (h.below (rboxed w (.int .u32 i) (.int .u32 gn)))
  cases hh : hit s.l i gn with
  | false =>
    have HG : Hid (got s i gn = []) := Lib.hid (by rw [got, if_neg (by rw [hh]; decide)])
    have HH := Lib.hid hh
    clear hh h
    go_enter Tryd.func11, Tryd.ntmps11
    go_wp2_with fail
    refine (refLives_any HA.out i gn hi hgn0 hgn1).mono ?_
    rw [HH.out]
    rintro e w1 ⟨rfl, hb⟩
    have HB := Lib.hid ((rboxed w (.int .u32 i) (.int .u32 gn)).trans (hb.mono (by simp)))
    clear hb
    go_wp2
    go_ret2
    exact ⟨ret_sb HG.out.symm rfl, HB.out⟩
  | true =>
    have hl := hit_lt hh
    have hn := h.wf.len
    obtain ⟨q, cap, rfl, hqg, hq, hcap, _, _, _, ht, _⟩ := h.slot hl
    have hc : w.cell? ⟨g, 2, none⟩ = some _ := h.blk.cell 2
    have hgl := h.lt
    have HG : Hid (got s i gn = (bk s.l i).t) := Lib.hid (by rw [got, if_pos hh])
    have HH := Lib.hid hh
    have HT := Lib.hid ht
    have HC := Lib.hid hc
    clear hh h ht hc
    go_enter Tryd.func11, Tryd.ntmps11
    go_wp2_with fail
    refine (refLives_any HA.out i gn hi hgn0 hgn1).mono ?_
    rw [HH.out]
    rintro e w1 ⟨rfl, hb⟩
    have hx := rboxed_at w w1 (.int .u32 i) (.int .u32 gn) hb
    have HB := Lib.hid ((rboxed w (.int .u32 i) (.int .u32 gn)).trans (hb.mono (by simp)))
    have d2 := (HB.out.cell (p := ⟨g, 2, none⟩) hgl).trans HC.out
    have d3 := (HB.out.cell (p := ⟨q, i * 4 + 3, none⟩) hq).trans HT.out
    have d0 := hx.1
    have hi0 : (0 : Int) ≤ (i : Int) := by omega
    have hi1 : (i : Int) < (s.l.length : Int) := by omega
    clear hb hx
    go_wp2_with fail
    go_quiet (fail)
    go_wp2
    go_ret2
    exact ⟨ret_sb HG.out.symm rfl, below_drewN HB.out _⟩
end Go.Proofs.YtiandhfpdehicaaDoor
