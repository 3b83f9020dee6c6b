/- Contracts of a rank's heap: what package heap calls. -/
import Derived.Test.YtplhdmaiammckaaRkDef
namespace Go.Proofs.Ytplhdmaiammckaa
open Go.RowKit
set_option linter.unusedVariables false

theorem len_any {w : World} {B g m : Nat} {v : Value} {l : List Ent} (h : Ok w B g m v l) :
    Calls Try.prog 26 #[.pointer (some ⟨g, 0, none⟩)] w fun e w' => e = .returned (.int .i64 l.length) ∧ w = w' := by
  obtain ⟨A, c, rfl, hc1, hc2⟩ := own_any h.row
  have c0 : w.cell? ⟨g, 0, none⟩ = some (.slice A l.length c) := h.blk.cell 0
  have hf := h.few
  generalize l.length = n at *
  clear h
  go_enter Try.func26, Try.ntmps26
  go_wp2
  go_ret
  exact ⟨rfl, rfl⟩
theorem before_any (a b x y : Int) (w : World) :
    Calls Try.prog 21 #[.int .i64 a, .int .i64 b, .int .i64 x, .int .i64 y] w fun e w' => e = .returned (.bool (ltB (x, a) (y, b))) ∧ w = w' := by
  have hb : ltB (x, a) (y, b) = (decide (a < b) || (decide (a = b) && decide (x < y))) := by
    unfold ltB
    rw [← Bool.decide_and, ← Bool.decide_or]
  rw [hb]
  by_cases h1 : a < b <;> by_cases h2 : a = b <;> by_cases h3 : x < y
  all_goals
    go_enter Try.func21, Try.ntmps21
    go_wp2
    go_ret
    exact ⟨by simp [h1, h2, h3], rfl⟩
/-- A cell that was there reads the same behind one new block, and behind two. -/
theorem cell_new1 {w : World} {p : Addr} {u : Value} (h : w.cell? p = some u) (o : Obj) : (w.alloc o).cell? p = some u := (World.cell?_alloc_lt w o p (World.block_lt_of_cell? _ _ h)).trans h
theorem cell_new2 {w : World} {p : Addr} {u : Value} (h : w.cell? p = some u) (o o' : Obj) : ((w.alloc o).alloc o').cell? p = some u := cell_new1 (cell_new1 h o) o'
set_option maxHeartbeats 1000000 in
theorem less_any {w : World} {B g m : Nat} {v : Value} {l : List Ent} (h : Ok w B g m v l) (i j : Nat) (hi : i < l.length) (hj : j < l.length) :
    Calls Try.prog 49 #[.pointer (some ⟨g, 0, none⟩), .int .i64 i, .int .i64 j] w fun e w' => e = .returned (.bool (ltB (ent l i) (ent l j))) ∧ Below w.heap.size w w' := by
  obtain ⟨b, c, rfl, hc1, hc2, hbg, hbm, -⟩ := h.shape (by omega)
  have c0 : w.cell? ⟨g, 0, none⟩ = some (.slice (some ⟨b, 0, none⟩) l.length c) := h.blk.cell 0
  obtain ⟨p0, p1⟩ := h.cells i hi
  obtain ⟨q0, q1⟩ := h.cells j hj
  have hf := h.few
  have e : ltB (ent l i) (ent l j) = ltB ((ent l i).1, (ent l i).2) ((ent l j).1, (ent l j).2) := rfl
  rw [e]
  generalize (ent l i).1 = x at *
  generalize (ent l i).2 = s at *
  generalize (ent l j).1 = y at *
  generalize (ent l j).2 = t at *
  generalize l.length = n at *
  clear h e hbg hbm
  have c1 := fun o => cell_new1 c0 o
  have c2 := fun o o' => cell_new2 c0 o o'
  have p01 := fun o => cell_new1 p0 o
  have p02 := fun o o' => cell_new2 p0 o o'
  have p11 := fun o => cell_new1 p1 o
  have p12 := fun o o' => cell_new2 p1 o o'
  have q01 := fun o => cell_new1 q0 o
  have q02 := fun o o' => cell_new2 q0 o o'
  have q11 := fun o => cell_new1 q1 o
  have q12 := fun o o' => cell_new2 q1 o o'
  go_enter Try.func49, Try.ntmps49
  go_wp2
  go_region
  all_goals
    clear c1 c2 p01 p02 p11 p12 q01 q02 q11 q12
    go_wp2_with (go_at_call 21; refine (before_any _ _ _ _ _).mono ?_; rintro e w' ⟨rfl, rfl⟩)
    go_ret
    exact ⟨rfl, by go_grown⟩
/-- Two cells of a place are written. -/
theorem Ok.store {w : World} {B g m b c : Nat} {l : List Ent} (h : Ok w B g m (.slice (some ⟨b, 0, none⟩) l.length c) l) (i : Nat) (p : Ent) :
    ((w.setCell ⟨b, i * 2, none⟩ (.int .i64 p.1)).setCell ⟨b, i * 2 + 1, none⟩ (.int .i64 p.2)).ownsRow B 60 2 (.slice (some ⟨b, 0, none⟩) l.length c) l.length (ecells (l.set i p)) := by
  rw [ecells_set]
  exact ((h.row.stored (i * 2) (.int .i64 p.1)).1.stored (i * 2 + 1) (.int .i64 p.2)).1
end Go.Proofs.Ytplhdmaiammckaa
