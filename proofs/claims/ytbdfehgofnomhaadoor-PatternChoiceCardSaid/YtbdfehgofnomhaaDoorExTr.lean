/- Layer 7: trees in blocks that are known whole. -/
import Derived.Test.YtbdfehgofnomhaaDoorExRt
namespace Go.Proofs.YtbdfehgofnomhaaDoor
open Go.RowKit
set_option linter.unusedVariables false

/-- The cells of one. -/
abbrev cs1 (x : ET) : Array Value := #[.int .i64 x.k, .string (str x.op), .int .i64 x.n, .string (str x.v), .string (str x.f), .slice x.A x.ks.length x.c]
/-- The cells of two. -/
abbrev cs2 (x y : ET) : Array Value := #[.int .i64 x.k, .string (str x.op), .int .i64 x.n, .string (str x.v), .string (str x.f), .slice x.A x.ks.length x.c, .int .i64 y.k, .string (str y.op), .int .i64 y.n, .string (str y.v), .string (str y.f), .slice y.A y.ks.length y.c]
theorem at1 {W : World} {q : Nat} {t : TypeId} {x : ET} (h : Has W q t (cs1 x)) : CellsAt W (some ⟨q, 0, none⟩) 0 x :=
  ⟨q, 0, rfl, h.cell 0, h.cell 1, h.cell 2, h.cell 3, h.cell 4, h.cell 5⟩
theorem at2 {W : World} {q : Nat} {t : TypeId} {x y : ET} (h : Has W q t (cs2 x y)) : CellsAt W (some ⟨q, 0, none⟩) 0 x ∧ CellsAt W (some ⟨q, 0, none⟩) 1 y :=
  ⟨⟨q, 0, rfl, h.cell 0, h.cell 1, h.cell 2, h.cell 3, h.cell 4, h.cell 5⟩, ⟨q, 0, rfl, h.cell 6, h.cell 7, h.cell 8, h.cell 9, h.cell 10, h.cell 11⟩⟩
theorem in1 {W : World} {q : Nat} {t : TypeId} {x : ET} (k : Int) (op : Nm) (n : Int) (v f : Nm) (c : Nat) (h : Has W q t (cs1 x)) (hx : x.In W) (ho : okE n op v f (some ⟨q, 0, none⟩) 1 c) : ET.In W (.mk k op n v f (some ⟨q, 0, none⟩) c [x]) :=
  .of ho fun j hj => by
    obtain rfl : j = 0 := by simpa using hj
    exact ⟨at1 h, hx⟩
theorem in2 {W : World} {q : Nat} {t : TypeId} {x y : ET} (k : Int) (op : Nm) (n : Int) (v f : Nm) (c : Nat) (h : Has W q t (cs2 x y)) (hx : x.In W) (hy : y.In W) (ho : okE n op v f (some ⟨q, 0, none⟩) 2 c) : ET.In W (.mk k op n v f (some ⟨q, 0, none⟩) c [x, y]) :=
  .of ho fun j hj => by
    have hj2 : j < 2 := hj
    rcases j with _ | _ | j
    · exact ⟨(at2 h).1, hx⟩
    · exact ⟨(at2 h).2, hy⟩
    · omega
theorem in0 (W : World) (k : Int) (op : Nm) (n : Int) (v f : Nm) (ho : okE n op v f none 0 0) : ET.In W (.mk k op n v f none 0 []) := .of ho fun j hj => by simp at hj
/-- A Ref, a number. -/
def rf (v f : Nm) : ET := .mk 1 [] 0 v f none 0 []
def nm (n : Int) : ET := .mk 0 [] n [] [] none 0 []
theorem in_rf (W : World) (v f : Nm) (hv : v.length ≤ 1000000) (hf : f.length ≤ 1000000) : (rf v f).In W := in0 W _ _ _ _ _ ⟨by omega, by omega, by simp, by omega, by omega, fun _ => rfl, by omega, by unfold maxLen; omega⟩
theorem in_nm (W : World) (n : Int) (h0 : -9223372036854775808 ≤ n) (h1 : n ≤ 9223372036854775807) : (nm n).In W := in0 W _ _ _ _ _ ⟨h0, h1, by simp, by simp, by simp, fun _ => rfl, by omega, by unfold maxLen; omega⟩
theorem has_at {w : World} {o : Obj} {cs : Array Value} {t : TypeId} {q : Nat} (h : o = .cells cs t (0, 0)) (hq : q = w.heap.size) : Has (w.alloc o) q t cs := by subst h; subst hq; exact heap_alloc_new w _
theorem step1 (w : World) (o : Obj) : Below w.heap.size w (w.alloc o) := (Below.refl _ _).alloc (Nat.le_refl _) _
theorem okE_small (op : Nm) (q m c : Nat) (h : op.length ≤ 10) (hm : m ≤ c) (hc : c ≤ 100) : okE 0 op [] [] (some ⟨q, 0, none⟩) m c := ⟨by omega, by omega, by omega, by simp, by simp, (fun h => by cases h), hm, by unfold maxLen; omega⟩
theorem lies_new (w : World) (l : List Value) (t : TypeId) : Lies (w.alloc (.cells l.toArray t)) (some ⟨w.heap.size, 0, none⟩) l := fun i u hu => by
  refine ⟨_, rfl, ?_⟩
  rw [Go.WideShapes.add_plain, Nat.zero_add, cell_of_row _ w.heap.size i _ t (0, 0) (heap_alloc_new w _), List.getElem?_toArray]
  exact hu
theorem strs_new (w : World) (l : List Nm) (t : TypeId) (hl : l.length ≤ 1000000) : Strs (w.alloc (.cells ((l.map fun s => Value.string (str s)).toArray) t)) (some ⟨w.heap.size, 0, none⟩) l.length l :=
  ⟨lies_new w _ t, (fun h => by cases h), Nat.le_refl _, by unfold maxLen; omega⟩
end Go.Proofs.YtbdfehgofnomhaaDoor
