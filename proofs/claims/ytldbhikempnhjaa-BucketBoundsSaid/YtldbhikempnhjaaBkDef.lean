/- A bucket as a value of four numbers; when two are the same; what is right, filled up and taken, in plain arithmetic. -/
import Derived.Test.YtldbhikempnhjaaBase
import Derived.Deep.QuietTactic
import Derived.BigQuiet
import Derived.Lib.MinMax
import Derived.Deep.RegionHeld3
import Derived.Laws.StructEq
import Derived.Deep.DeepCutAuto
namespace Go.Proofs.Ytldbhikempnhjaa
open Go.RowKit
set_option linter.unusedVariables false

theorem Below.step {w w1 w2 : World} {B : Nat} (h : Below B w w1) (h2 : Below w1.heap.size w1 w2) (hB : B ≤ w.heap.size) : Below B w w2 := h.trans (h2.mono (Nat.le_trans hB h.size))
theorem below2 {w w1 w2 : World} (h1 : Below w.heap.size w w1) (h2 : Below w1.heap.size w1 w2) : Below w.heap.size w w2 := h1.trans (h2.mono h1.size)
theorem Has.drew {w : World} {g : Nat} {t : TypeId} {cs : Array Value} (h : Has w g t cs) : Has w.drew g t cs := h
theorem has_new (w : World) (cs : Array Value) (t : TypeId) : Has (w.alloc (.cells cs t)) w.heap.size t cs := heap_alloc_new w _
theorem Has.alloc {w : World} {g : Nat} {t : TypeId} {cs : Array Value} (h : Has w g t cs) (o : Obj) : Has (w.alloc o) g t cs := (Below.heap_alloc w o g h.lt).trans h

abbrev bk (s l k a : Int) : Value := .agg #[.int .i64 s, .int .i64 l, .int .i64 k, .int .i64 a]
abbrev cs4 (s l k a : Int) : Array Value := #[.int .i64 s, .int .i64 l, .int .i64 k, .int .i64 a]
/-- What the four cells of a block read. -/
def fourAt (w : World) (g : Nat) (s l k a : Int) : Prop :=
  w.cell? ⟨g, 0, none⟩ = some (.int .i64 s) ∧ w.cell? ⟨g, 1, none⟩ = some (.int .i64 l) ∧ w.cell? ⟨g, 2, none⟩ = some (.int .i64 k) ∧ w.cell? ⟨g, 3, none⟩ = some (.int .i64 a)
theorem Has.four {w : World} {g : Nat} {t : TypeId} {s l k a : Int} (h : Has w g t (cs4 s l k a)) : fourAt w g s l k a := ⟨h.cell 0, h.cell 1, h.cell 2, h.cell 3⟩

theorem Has.fours {w : World} {g : Nat} {t : TypeId} {s l k a : Int} (h : Has w g t (cs4 s l k a)) : fourAt w g s l k a ∧ (w.frozen? ⟨g, 0, none⟩ = false ∧ w.frozen? ⟨g, 1, none⟩ = false ∧ w.frozen? ⟨g, 2, none⟩ = false ∧ w.frozen? ⟨g, 3, none⟩ = false) := ⟨h.four, h.free 0, h.free 1, h.free 2, h.free 3⟩
/-- Two new blocks, one behind the other. -/
theorem two_new (w : World) (c0 c1 : Array Value) (t0 t1 : TypeId) :
    Has ((w.alloc (.cells c0 t0)).alloc (.cells c1 t1)) w.heap.size t0 c0 ∧ Has ((w.alloc (.cells c0 t0)).alloc (.cells c1 t1)) (w.heap.size + 1) t1 c1 ∧ Below w.heap.size w ((w.alloc (.cells c0 t0)).alloc (.cells c1 t1)) := by
  have e1 : (w.alloc (.cells c0 t0)).heap.size = w.heap.size + 1 := by simp
  refine ⟨(has_new w c0 t0).alloc _, ?_, ((Below.refl _ _).alloc (Nat.le_refl _) _).alloc (by omega) _⟩
  rw [← e1]; exact has_new _ c1 t1
/-- Four cells are written. -/
theorem Has.set4 {w : World} {g : Nat} {t : TypeId} {x y z u : Int} (h : Has w g t (cs4 x y z u)) (s l k a : Int) :
    Has ((((w.setCell ⟨g, 0, none⟩ (.int .i64 s)).setCell ⟨g, 1, none⟩ (.int .i64 l)).setCell ⟨g, 2, none⟩ (.int .i64 k)).setCell ⟨g, 3, none⟩ (.int .i64 a)) g t (cs4 s l k a) := by
  have := (((h.put 0 (.int .i64 s)).put 1 (.int .i64 l)).put 2 (.int .i64 k)).put 3 (.int .i64 a)
  simpa using this
theorem below_set4 {B : Nat} {w w1 : World} {g : Nat} (h : Below B w w1) (hg : B ≤ g) (s l k a : Int) :
    Below B w ((((w1.setCell ⟨g, 0, none⟩ (.int .i64 s)).setCell ⟨g, 1, none⟩ (.int .i64 l)).setCell ⟨g, 2, none⟩ (.int .i64 k)).setCell ⟨g, 3, none⟩ (.int .i64 a)) :=
  (((h.setCell (p := ⟨g, 0, none⟩) hg _).setCell (p := ⟨g, 1, none⟩) hg _).setCell (p := ⟨g, 2, none⟩) hg _).setCell (p := ⟨g, 3, none⟩) hg _
theorem Has.set_other {w : World} {g : Nat} {t : TypeId} {cs : Array Value} (h : Has w g t cs) (p : Addr) (u : Value) (hp : p.block ≠ g) : Has (w.setCell p u) g t cs := (Below.heap_setCell w p u g (Ne.symm hp)).trans h
/-- Another block than the one that is written keeps. -/
theorem Has.beside4 {w : World} {g q : Nat} {t : TypeId} {cs : Array Value} (h : Has w q t cs) (hp : g ≠ q) (s l k a : Int) :
    Has ((((w.setCell ⟨g, 0, none⟩ (.int .i64 s)).setCell ⟨g, 1, none⟩ (.int .i64 l)).setCell ⟨g, 2, none⟩ (.int .i64 k)).setCell ⟨g, 3, none⟩ (.int .i64 a)) q t cs :=
  (((h.set_other ⟨g, 0, none⟩ _ hp).set_other ⟨g, 1, none⟩ _ hp).set_other ⟨g, 2, none⟩ _ hp).set_other ⟨g, 3, none⟩ _ hp
def bkEq (s l k a s' l' k' a' : Int) : Bool := decide (s = s' ∧ l = l' ∧ k = k' ∧ a = a')
theorem bkEq_self (s l k a : Int) : bkEq s l k a s l k a = true := by simp [bkEq]
theorem under_bk : Try.prog.underlying 23 = some (.struct (Try.prog.fieldsOf 23)) := by kernel_rfl
theorem held_bk : Try.prog.stoodInHeld 23 = false := by kernel_rfl
@[go_sem high] theorem guard_bk (op : BinOp) (x y : Operand) (xs ys : Array Value) (w : World) : (eqGuard op 23 x y (.agg xs) (.agg ys)).run Try.prog w = .ok () w := run_eqGuard_agg w op _ x y xs ys (by kernel_rfl)
theorem bools4 (s l k a s' l' k' a' : Int) : ((s == s') && ((l == l') && ((k == k') && (a == a')))) = bkEq s l k a s' l' k' a' := by
  unfold bkEq
  by_cases h1 : s = s' <;> by_cases h2 : l = l' <;> by_cases h3 : k = k' <;> by_cases h4 : a = a' <;> simp [h1, h2, h3, h4]
@[go_sem high] theorem eql_bk (s l k a s' l' k' a' : Int) (w : World) : (binOp .eql 23 (bk s l k a) (bk s' l' k' a')).run Try.prog w = .ok (.bool (bkEq s l k a s' l' k' a')) w := by
  rw [run_eql_struct, run_equalIn_agg w _ _ _ _ under_bk held_bk]
  unfold bkEq
  by_cases h1 : s = s' <;> by_cases h2 : l = l' <;> by_cases h3 : k = k' <;> by_cases h4 : a = a' <;> simp [Op.eqFields, Program.fieldsOf, Try.underlying23, Try.underlying3, Try.underlying2, go_sem, h1, h2, h3, h4]
theorem under_rk : Try.prog.underlying 31 = some (.struct (Try.prog.fieldsOf 31)) := by kernel_rfl
theorem held_rk : Try.prog.stoodInHeld 31 = false := by kernel_rfl
@[go_sem high] theorem guard_rk (op : BinOp) (x y : Operand) (xs ys : Array Value) (w : World) : (eqGuard op 31 x y (.agg xs) (.agg ys)).run Try.prog w = .ok () w := run_eqGuard_agg w op _ x y xs ys (by kernel_rfl)
@[go_sem high] theorem eql_rk (s l k a s' l' k' a' : Int) (w : World) : (binOp .eql 31 (bk s l k a) (bk s' l' k' a')).run Try.prog w = .ok (.bool (bkEq s l k a s' l' k' a')) w := by
  rw [run_eql_struct, run_equalIn_agg w _ _ _ _ under_rk held_rk]
  unfold bkEq
  by_cases h1 : s = s' <;> by_cases h2 : l = l' <;> by_cases h3 : k = k' <;> by_cases h4 : a = a' <;> simp [Op.eqFields, Program.fieldsOf, Try.underlying31, Try.underlying3, Try.underlying2, go_sem, h1, h2, h3, h4]

/-- Is it right? -/
def rB (s l k : Int) : Bool := decide (0 ≤ s ∧ s ≤ 1000000 ∧ 0 ≤ l ∧ l ≤ s ∧ 1 ≤ k ∧ k ≤ 4611686018427387904)
/-- How many are left, filled up to n. -/
def fL (s l k a n : Int) : Int := if rB s l k = true then (if l = s then l else if n < a then l else if s - l ≤ (n - a) / k then s else l + (n - a) / k) else l
/-- Its time then. -/
def fA (s l k a n : Int) : Int := if rB s l k = true then (if l = s then max a n else if n < a then a else if s - l ≤ (n - a) / k then n else a + (n - a) / k * k) else a
/-- Is one taken at n? -/
def tK (s l k a n : Int) : Bool := rB s l k && decide (fL s l k a n ≠ 0)
def tL (s l k a n : Int) : Int := if tK s l k a n = true then fL s l k a n - 1 else fL s l k a n

def bS (s : Int) : Int := min (max s 0) 1000000
def bL (s l : Int) : Int := min (max l 0) (bS s)
def bK (k : Int) : Int := min (max k 1) 4611686018427387904
theorem rB_eq (s l k a : Int) : bkEq s l k a (bS s) (bL s l) (bK k) a = rB s l k := by
  unfold bkEq rB bL bS bK
  rw [decide_eq_decide]
  omega
theorem rB_yes {s l k : Int} (h : rB s l k = true) : 0 ≤ s ∧ s ≤ 1000000 ∧ 0 ≤ l ∧ l ≤ s ∧ 1 ≤ k ∧ k ≤ 4611686018427387904 := of_decide_eq_true h
/-- A product of what a number holds of another one. -/
theorem div_mul_le (d k : Int) (h0 : 0 ≤ d) (hk : 1 ≤ k) : 0 ≤ d / k ∧ 0 ≤ d / k * k ∧ d / k * k ≤ d :=
  ⟨Int.ediv_nonneg h0 (by omega), Int.mul_nonneg (Int.ediv_nonneg h0 (by omega)) (by omega), Int.ediv_mul_le d (by omega)⟩
theorem fit {s l k a n : Int} (ha : -9223372036854775808 ≤ a ∧ a ≤ 9223372036854775807) (hn : -9223372036854775808 ≤ n ∧ n ≤ 9223372036854775807) : -9223372036854775808 ≤ fA s l k a n ∧ fA s l k a n ≤ 9223372036854775807 := by
  unfold fA
  split
  · rename_i h
    obtain ⟨_, _, _, _, hk, _⟩ := rB_yes h
    split
    · omega
    · split
      · omega
      · have := div_mul_le (n - a) k (by omega) hk
        split <;> omega
  · exact ha
end Go.Proofs.Ytldbhikempnhjaa
