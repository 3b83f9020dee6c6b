/- What Get of package wire tells, as a contract at its face. -/
import Derived.Test.YtglhebpblncjaaaDoorWrGet
namespace Go.Proofs.YtglhebpblncjaaaDoor
open Go.RowKit
set_option linter.unusedVariables false

/-- What Get tells: kind, time, numbers, error. -/
def gK (l : List UInt8) : Int := if gok l then (byteAt l 0 : Nat) else 0
def gT (l : List UInt8) : Int := if gok l then intAt l 2 else 0
def gV (l : List UInt8) : List Int := if gok l then gvs l else []
def gE (l : List UInt8) : Int := if gok l then 0 else 7
/-- What Get leaves. -/
def FaceP (l : List UInt8) (w : World) (e : Ending) (w' : World) : Prop :=
  ∃ A, e = .returned (.tuple #[ev (gK l) (gT l) A (gV l).length (gV l).length, .int .i64 (gE l)]) ∧ Below w.heap.size w w' ∧ Lies w' A (ints (gV l))
/-- What Get leaves, with where the numbers lie: in a new block. -/
def FaceN (l : List UInt8) (w : World) (e : Ending) (w' : World) : Prop :=
  ∃ A, e = .returned (.tuple #[ev (gK l) (gT l) A (gV l).length (gV l).length, .int .i64 (gE l)]) ∧ Below w.heap.size w w' ∧ Lies w' A (ints (gV l)) ∧ ∀ x : Addr, A = some x → w.heap.size ≤ x.block
theorem two_new (w : World) (c0 c1 : Array Value) (t0 t1 : TypeId) :
    Has ((w.alloc (.cells c0 t0)).alloc (.cells c1 t1)) w.heap.size t0 c0 ∧ Has ((w.alloc (.cells c0 t0)).alloc (.cells c1 t1)) (w.heap.size + 1) t1 c1 ∧
    Below w.heap.size w ((w.alloc (.cells c0 t0)).alloc (.cells c1 t1)) := by
  have e1 : (w.alloc (.cells c0 t0)).heap.size = w.heap.size + 1 := by simp
  refine ⟨(has_new w c0 t0).alloc _, ?_, ((Below.refl _ _).alloc (Nat.le_refl _) _).alloc (by omega) _⟩
  rw [← e1]; exact has_new _ c1 t1
set_option maxHeartbeats 1600000 in
theorem wget_new (s : ByteArray) (l : List UInt8) (w : World) (hl : s.data.toList = l) (hs : s.size ≤ 4611686018427387904) :
    Calls Tryd.prog 40 #[.string s] w (FaceN l w) := by
  have hmf : ∀ (fn : Fn) (first cap : Array Value) (w : World), (Instr.makeFunc fn first cap).run Tryd.prog w = .ok (.func fn first cap) w := fun _ _ _ _ => rfl
  have HC := Lib.hid (getEvent_any s l ((w.alloc (.cells #[.int .i64 0, .int .i64 0, .slice none 0 0] 35)).alloc (.cells #[.int .i64 0] 39)) hl hs)
  clear hl hs
  go_enter_defers Tryd.func40, Tryd.ntmps40
  go_wp2_with fail
  refine HC.out.mono ?_
  rintro e w1 ⟨h1, hor⟩
  have T0 := two_new w #[.int .i64 0, .int .i64 0, .slice none 0 0] #[.int .i64 0] 35 39
  have X1 := Lib.hid (Has.below T0.1 h1 T0.1.lt)
  have X2 := Lib.hid (Has.below T0.2.1 h1 T0.2.1.lt)
  have XB := Lib.hid (Below.step T0.2.2 h1 (Nat.le_refl _))
  clear T0 h1 HC
  rcases hor with ⟨hk, g, rfl, hgg, hG⟩ | ⟨hk, rfl⟩
  · have hg2 : w.heap.size + 1 + 1 ≤ g := by simpa using hgg
    have HK := Lib.hid hk
    have HG := Lib.hid hG
    clear hk hG hgg
    unfold ev
    have c0 := X1.out.cell 0
    have c1 := X1.out.cell 1
    have c2 := X1.out.cell 2
    have f0 := X1.out.free 0
    have f1 := X1.out.free 1
    have f2 := X1.out.free 2
    have d0 := X2.out.cell 0
    have e0 := X2.out.free 0
    simp at c0 c1 c2 d0
    go_wp2
    refine leaves_cons (f := 54) (args := #[.pointer (some ⟨w.heap.size, 0, none⟩), .pointer (some ⟨w.heap.size + 1, 0, none⟩)]) (by simp) (by simp [go_sem]) ?_
    refine (gcatch_idle ⟨w.heap.size, 0, none⟩ ⟨w.heap.size + 1, 0, none⟩ _).mono ?_
    rintro e u' w'' ⟨rfl, rfl, rfl⟩
    have Z1 := ((((X1.out.put 0 (.int .i64 (byteAt l 0 : Nat))).put 1 (.int .i64 (intAt l 2))).put 2 (.slice (some ⟨g, 0, none⟩) (byteAt l 1) (byteAt l 1))).set_other ⟨w.heap.size + 1, 0, none⟩ (.int .i64 0) (by simp))
    have Y0 := Z1.cell 0
    have Y1 := Z1.cell 1
    have Y2 := Z1.cell 2
    have Y3 := ((((X2.out.set_other ⟨w.heap.size, 0, none⟩ (.int .i64 (byteAt l 0 : Nat)) (by simp)).set_other ⟨w.heap.size, 1, none⟩ (.int .i64 (intAt l 2)) (by simp)).set_other ⟨w.heap.size, 2, none⟩ (.slice (some ⟨g, 0, none⟩) (byteAt l 1) (byteAt l 1)) (by simp)).put 0 (.int .i64 0)).cell 0
    simp at Y0 Y1 Y2 Y3
    simp [Leaves, settle, results, Tryd.results40, go_sem, Y0, Y1, Y2, Y3]
    refine ⟨some ⟨g, 0, none⟩, ?_, ((((XB.out.setCell (p := ⟨w.heap.size, 0, none⟩) (by simp) _).setCell (p := ⟨w.heap.size, 1, none⟩) (by simp) _).setCell (p := ⟨w.heap.size, 2, none⟩) (by simp) _).setCell (p := ⟨w.heap.size + 1, 0, none⟩) (by simp) _), ?_, fun x hx => by cases hx; show w.heap.size ≤ g; omega⟩
    · simp [gK, gT, gV, gE, HK.out, ev, gvs_length]
    · rw [gV, if_pos HK.out]
      exact ((((HG.out.set_other _ _ (by simp; omega)).set_other _ _ (by simp; omega)).set_other _ _ (by simp; omega)).set_other _ _ (by simp; omega)).lies
  · have HK := Lib.hid hk
    clear hk
    go_wp2
    refine leaves_cons (f := 54) (args := #[.pointer (some ⟨w.heap.size, 0, none⟩), .pointer (some ⟨w.heap.size + 1, 0, none⟩)]) (by simp [thrown]) (by simp [go_sem]) ?_
    refine (gcatch_panicking w.heap.size (w.heap.size + 1) _ _ _ _ 7 [] _ (X1.out.cell 0) (X1.out.cell 1) (X1.out.cell 2) (X1.out.free 0) (X1.out.free 1) (X1.out.free 2) (X2.out.cell 0) (X2.out.free 0) (by omega)).mono ?_
    rintro e u' w'' ⟨rfl, rfl, rfl⟩
    have Z1 := ((((X1.out.put 0 (.int .i64 0)).put 1 (.int .i64 0)).put 2 (.slice none 0 0)).set_other ⟨w.heap.size + 1, 0, none⟩ (.int .i64 7) (by simp))
    have Y0 := Z1.cell 0
    have Y1 := Z1.cell 1
    have Y2 := Z1.cell 2
    have Y3 := ((((X2.out.set_other ⟨w.heap.size, 0, none⟩ (.int .i64 0) (by simp)).set_other ⟨w.heap.size, 1, none⟩ (.int .i64 0) (by simp)).set_other ⟨w.heap.size, 2, none⟩ (.slice none 0 0) (by simp)).put 0 (.int .i64 7)).cell 0
    simp at Y0 Y1 Y2 Y3
    simp [Leaves, settle, results, Tryd.results40, go_sem, Y0, Y1, Y2, Y3]
    refine ⟨none, ?_, ((((XB.out.setCell (p := ⟨w.heap.size, 0, none⟩) (by simp) _).setCell (p := ⟨w.heap.size, 1, none⟩) (by simp) _).setCell (p := ⟨w.heap.size, 2, none⟩) (by simp) _).setCell (p := ⟨w.heap.size + 1, 0, none⟩) (by simp) _), ?_, fun x hx => by cases hx⟩
    · simp [gK, gT, gV, gE, HK.out, ev]
    · intro i u hu
      simp [gV, HK.out] at hu
theorem wget_any (s : ByteArray) (l : List UInt8) (w : World) (hl : s.data.toList = l) (hs : s.size ≤ 4611686018427387904) :
    Calls Tryd.prog 40 #[.string s] w (FaceP l w) :=
  (wget_new s l w hl hs).mono fun e w' ⟨A, h1, h2, h3, _⟩ => ⟨A, h1, h2, h3⟩
end Go.Proofs.YtglhebpblncjaaaDoor
