/- What a handle finds in an arena, as contracts: find, Get and Put. -/
import Derived.Test.YtglhebpblncjaaaDoorArWalks
import Derived.RegionTactic
import Derived.Deep.QuietTactic
import Derived.BigQuiet
namespace Go.Proofs.YtglhebpblncjaaaDoor
open Go.RowKit
set_option linter.unusedVariables false

theorem below_drewN {B : Nat} {a w : World} (h : Below B a w) (n : Nat) : Below B a (w.drewN n) := ⟨h.os, h.tape, h.output, h.size, h.block⟩
theorem own_slice {w : World} {base : Nat} {e : TypeId} {size : Nat} {v : Value} {n : Nat} {xs : List Value} (h : w.ownsRow base e size v n xs) : ∃ A c, v = .slice A n c := by
  rcases h.2 with ⟨rfl, rfl⟩ | ⟨g, cap, cur, rfl, _⟩
  · exact ⟨_, _, rfl⟩
  · exact ⟨_, _, rfl⟩
/-- The slots' slice of an arena that had a block, and the cells of a slot. -/
theorem ArAt.slot {w : World} {B g : Nat} {v : Value} {s : Ar} (h : ArAt w B g v s) {i : Nat} (hi : i < s.l.length) :
    ∃ q cap, v = .slice (some ⟨q, 0, none⟩) s.l.length cap ∧ q ≠ g ∧ q < w.heap.size ∧ s.l.length ≤ cap ∧ w.cell? ⟨q, i * 3, none⟩ = some (.string (str (bk s.l i).t)) ∧ w.cell? ⟨q, i * 3 + 1, none⟩ = some (.int .i64 (bk s.l i).r) ∧ w.cell? ⟨q, i * 3 + 2, none⟩ = some (.int .u32 (bk s.l i).g) ∧ (∀ j, w.frozen? ⟨q, j, none⟩ = false) := by
  obtain ⟨g1, g2, g3⟩ := scells_get hi
  have hr := h.row
  rcases hr.2 with ⟨rfl, h0⟩ | ⟨q, cap, cur, rfl, hb, hgg, hc1, _⟩
  · omega
  · have e := Nat.mul_comm 3 i
    rw [e] at g1 g2 g3
    refine ⟨q, cap, rfl, fun e => h.ne (by rw [← e]; rfl), (hr.lt q rfl).2, hc1, ?_, ?_, ?_, fun j => hr.frozenAt j⟩
    · rw [hr.cellAt _ (by omega)]; exact g1
    · rw [hr.cellAt _ (by omega)]; exact g2
    · rw [hr.cellAt _ (by omega)]; exact g3

set_option maxHeartbeats 800000 in
theorem find_hit {w : World} {B g q cap : Nat} {s : Ar} (h : ArAt w B g (.slice (some ⟨q, 0, none⟩) s.l.length cap) s) (i : Nat) (gn : Int) (hh : hit s.l i gn = true) :
    Calls Tryd.prog 52 #[.pointer (some ⟨g, 0, none⟩), .agg #[.int .u32 i, .int .u32 gn]] w fun e w' => e = .returned (.pointer (some ⟨q, i * 3, none⟩)) ∧ Below w.heap.size w w' := by
  have hl := hit_lt hh
  obtain ⟨hr0, hg0⟩ := hit_r hh
  obtain ⟨q', cap', e, hqg, hq, _, _, hr, hg, _⟩ := h.slot hl
  simp only [Value.slice.injEq, Option.some.injEq, Addr.mk.injEq, and_true, true_and] at e
  obtain ⟨rfl, rfl⟩ := e
  obtain ⟨cs, h1, h2⟩ := h.blk
  have hc := (h1.cell 4).trans h2.row
  have hlt := h1.lt
  have hn := h.wf.len
  have hok := h.wf.ok.at_ i
  have hg1 := hok.2.2.1
  have hg2 := hok.2.2.2
  clear h h1 h2 hok hh
  generalize bk s.l i = b at *
  generalize s.l.length = n at *
  have h7 : (b.r == 0) = false := by simpa using hr0
  have h8 : (b.g == gn) = true := by simpa using hg0
  have h9 : (b.g != gn) = false := by simpa using hg0
  clear hr0 hg0
  go_enter Tryd.func52, Tryd.ntmps52
  go_wp2
  go_quiet (fail)
  go_wp2
  go_quiet (fail)
  go_wp2
  go_quiet (fail)
  go_wp2
  go_ret
  exact ⟨rfl, below_drewN (below_drewN (below_drewN ((Below.refl _ _).alloc (Nat.le_refl _) _) _) _) _⟩

set_option maxHeartbeats 800000 in
theorem find_miss {w : World} {B g : Nat} {v : Value} {s : Ar} (h : ArAt w B g v s) (i : Nat) (gn : Int) (hi : i ≤ 4294967295) (hgn0 : 0 ≤ gn) (hgn1 : gn ≤ 4294967295) (hh : hit s.l i gn = false) :
    Calls Tryd.prog 52 #[.pointer (some ⟨g, 0, none⟩), .agg #[.int .u32 i, .int .u32 gn]] w fun e w' => e = .returned (.pointer none) ∧ Below w.heap.size w w' := by
  have hn := h.wf.len
  obtain ⟨cs, h1, h2⟩ := h.blk
  have hc := (h1.cell 4).trans h2.row
  have hlt := h1.lt
  clear h1 h2
  by_cases hl : i < s.l.length
  · obtain ⟨q, cap, rfl, hqg, hq, _, _, hr, hg, _⟩ := h.slot hl
    have hok := h.wf.ok.at_ i
    have hg1 := hok.2.2.1
    have hg2 := hok.2.2.2
    have hd : (bk s.l i).r = 0 ∨ (bk s.l i).r ≠ 0 ∧ (bk s.l i).g ≠ gn := by
      simp only [hit, Bool.and_eq_false_iff, bne_eq_false_iff_eq, beq_eq_false_iff_ne] at hh
      by_cases h0 : (bk s.l i).r = 0
      · exact .inl h0
      · exact .inr ⟨h0, hh.resolve_left h0⟩
    clear h hok hh
    generalize bk s.l i = b at *
    generalize s.l.length = n at *
    rcases hd with h0 | ⟨h0, h00⟩
    · have h7 : (b.r == 0) = true := by simpa using h0
      clear h0
      go_enter Tryd.func52, Tryd.ntmps52
      go_wp2
      go_quiet (fail)
      go_wp2
      go_quiet (fail)
      go_wp2
      go_quiet (fail)
      go_wp2
      go_ret
      exact ⟨rfl, below_drewN (below_drewN (below_drewN ((Below.refl _ _).alloc (Nat.le_refl _) _) _) _) _⟩
    · have h7 : (b.r == 0) = false := by simpa using h0
      have h8 : (b.g == gn) = false := by simpa using h00
      have h9 : (b.g != gn) = true := by simpa using h00
      clear h0 h00
      go_enter Tryd.func52, Tryd.ntmps52
      go_wp2
      go_quiet (fail)
      go_wp2
      go_quiet (fail)
      go_wp2
      go_quiet (fail)
      go_wp2
      go_ret
      exact ⟨rfl, below_drewN (below_drewN (below_drewN ((Below.refl _ _).alloc (Nat.le_refl _) _) _) _) _⟩
  · obtain ⟨A, c, rfl⟩ := own_slice h.row
    clear h hh
    generalize s.l.length = n at *
    go_enter Tryd.func52, Tryd.ntmps52
    go_wp2
    go_quiet (fail)
    go_wp2
    go_ret
    exact ⟨rfl, below_drewN ((Below.refl _ _).alloc (Nat.le_refl _) _) _⟩

theorem ret_sb {a b : List UInt8} {c d : Bool} (h : a = b) (k : c = d) : Ending.returned (.tuple #[.string (str a), .bool c]) = .returned (.tuple #[.string (str b), .bool d]) := by rw [h, k]
theorem ret_bool {a b : Bool} (h : a = b) : Ending.returned (.bool a) = .returned (.bool b) := by rw [h]
/-- A handle in a box of the call's own. -/
theorem boxed (w : World) (a b : Value) : Below w.heap.size w (w.alloc (.cells #[a, b] 78)) := (Below.refl _ _).alloc (Nat.le_refl _) _
theorem boxed_at (w w1 : World) (a b : Value) (hb : Below (w.alloc (.cells #[a, b] 78)).heap.size (w.alloc (.cells #[a, b] 78)) w1) : w1.cell? ⟨w.heap.size, 0, none⟩ = some a ∧ w1.cell? ⟨w.heap.size, 1, none⟩ = some b := by
  have h := heap_alloc_new w (.cells #[a, b] 78)
  have hl : w.heap.size < (w.alloc (.cells #[a, b] 78)).heap.size := by simp
  constructor
  · rw [hb.cell (p := ⟨w.heap.size, 0, none⟩) hl]; exact cell_of_row _ _ 0 _ _ _ h
  · rw [hb.cell (p := ⟨w.heap.size, 1, none⟩) hl]; exact cell_of_row _ _ 1 _ _ _ h

set_option maxHeartbeats 800000 in
theorem aget_any {w : World} {B g : Nat} {v : Value} {s : Ar} (h : ArAt w B g v s) (i : Nat) (gn : Int) (hi : i ≤ 4294967295) (hgn0 : 0 ≤ gn) (hgn1 : gn ≤ 4294967295) :
    Calls Tryd.prog 39 #[.pointer (some ⟨g, 0, none⟩), .agg #[.int .u32 i, .int .u32 gn]] w fun e w' => e = .returned (.tuple #[.string (str (got s i gn)), .bool (hit s.l i gn)]) ∧ Below w.heap.size w w' := by
  have hA := h.below (boxed w (.int .u32 i) (.int .u32 gn))
  have HA := Lib.hid hA
  clear hA
  cases hh : hit s.l i gn with
  | false =>
    have HG : Hid (got s i gn = []) := Lib.hid (by rw [got, if_neg (by rw [hh]; decide)])
    have HH := Lib.hid hh
    clear hh h
    go_enter Tryd.func39, Tryd.ntmps39
    go_wp2_with fail
    refine (find_miss HA.out i gn hi hgn0 hgn1 HH.out).mono ?_
    rintro e w1 ⟨rfl, hb⟩
    have HB := Lib.hid ((boxed w (.int .u32 i) (.int .u32 gn)).trans (hb.mono (by simp)))
    clear hb
    go_wp2
    go_ret2
    exact ⟨ret_sb HG.out.symm rfl, HB.out⟩
  | true =>
    obtain ⟨q, cap, rfl, hqg, hq, _, ht, hr, hg, _⟩ := h.slot (hit_lt hh)
    have HG : Hid (got s i gn = (bk s.l i).t) := Lib.hid (by rw [got, if_pos hh])
    have HH := Lib.hid hh
    have HT := Lib.hid ht
    clear hh h ht hr hg
    go_enter Tryd.func39, Tryd.ntmps39
    go_wp2_with fail
    refine (find_hit HA.out i gn HH.out).mono ?_
    rintro e w1 ⟨rfl, hb⟩
    have HB := Lib.hid ((boxed w (.int .u32 i) (.int .u32 gn)).trans (hb.mono (by simp)))
    clear hb
    have hc := (HB.out.cell (p := ⟨q, i * 3, none⟩) hq).trans HT.out
    go_wp2
    go_ret2
    exact ⟨ret_sb HG.out.symm rfl, HB.out⟩

theorem set_self {α : Type} (l : List α) (i : Nat) (u : α) (h : l[i]? = some u) : l.set i u = l := by
  obtain ⟨h1, h2⟩ := List.getElem?_eq_some_iff.1 h
  rw [← h2, List.set_getElem_self]
theorem scells_put {l : List Blk} {i : Nat} (h : i < l.length) (t : List UInt8) : (scells l).set (i * 3) (.string (str t)) = scells (l.set i (ptb (bk l i) t)) := by
  obtain ⟨g1, g2, g3⟩ := scells_get h
  rw [← scells_set, ptb, Nat.mul_comm i 3]
  rw [set_self (((scells l).set (3 * i) _)) (3 * i + 1) _ (by rw [List.getElem?_set_ne (by omega)]; exact g2)]
  rw [set_self (((scells l).set (3 * i) _)) (3 * i + 2) _ (by rw [List.getElem?_set_ne (by omega)]; exact g3)]
theorem arc_turn {cs : Array Value} {s : Ar} {v : Value} (h : ArCells cs s v) {l : List Blk} (h1 : chg l = chg s.l) (h2 : liv l = liv s.l) (h3 : ∀ j, lvb l j = lvb s.l j) : ArCells cs ⟨s.cap, s.lim, l⟩ v := by
  refine ⟨h.size, h.cap, h.lim, ?_, ?_, h.row, fun i hi => ?_⟩
  · show cs[2]? = some (.int .i64 (chg l)); rw [h1]; exact h.chg
  · show cs[3]? = some (.int .i64 (liv l)); rw [h2]; exact h.liv
  · obtain ⟨x, a, b, c⟩ := h.bits i hi
    exact ⟨x, a, b, fun j hj => (c j hj).trans (h3 _).symm⟩
theorem put_lvb {l : List Blk} {i : Nat} (h : i < l.length) (t : List UInt8) : chg (l.set i (ptb (bk l i) t)) = chg l ∧ liv (l.set i (ptb (bk l i) t)) = liv l ∧ ∀ j, lvb (l.set i (ptb (bk l i) t)) j = lvb l j := by
  refine ⟨by rw [chg_set h]; simp only [ptb]; omega, by rw [liv_set h]; simp only [ptb]; omega, fun j => ?_⟩
  rw [lvb, lvb, bk_set h]
  split
  · rename_i e; rw [e]; rfl
  · rfl

end Go.Proofs.YtglhebpblncjaaaDoor
