/- Layer 7: trees that a call makes in new memory. -/
import Derived.Test.YtbhjimlikffalaaDoorExRefW
namespace Go.Proofs.YtbhjimlikffalaaDoor
open Go.RowKit
set_option linter.unusedVariables false

/-- The world with all blocks below N laid aside. -/
def hidL (N : Nat) (w : World) : World := { w with heap := w.heap.mapIdx fun i o => if i < N then .cells #[] 0 (0, 0) else o }
theorem hidL_size (N : Nat) (w : World) : (hidL N w).heap.size = w.heap.size := by simp [hidL]
theorem hidL_block {N q : Nat} (w : World) (h : N ≤ q) : (hidL N w).heap[q]? = w.heap[q]? := by
  unfold hidL
  simp only [Array.getElem?_mapIdx]
  cases w.heap[q]? with
  | none => rfl
  | some o => simp [show ¬ q < N by omega]
theorem hidL_cell {N : Nat} {w : World} {a : Addr} {v : Value} (h : (hidL N w).cell? a = some v) : N ≤ a.block ∧ w.cell? a = some v := by
  by_cases e : N ≤ a.block
  · exact ⟨e, by rw [← h]; exact (cell_block (hidL_block w e)).symm⟩
  · exfalso
    have hlt := World.block_lt_of_cell? _ _ h
    rw [hidL_size] at hlt
    have h2 : (hidL N w).heap[a.block]? = some (.cells #[] 0 (0, 0)) := by
      unfold hidL
      simp [hlt, show a.block < N by omega]
    simp only [World.cell?, h2] at h
    revert h
    cases a.spot <;> simp
/-- t lies in w, in blocks from N on. -/
def Nw (N : Nat) (w : World) (t : ET) : Prop := t.In (hidL N w)
theorem Nw.in_ {N : Nat} {w : World} {t : ET} (h : Nw N w t) : t.In w := ET.In.imp (fun _ _ h => (hidL_cell h).2) t h
theorem Nw.imp {N N' : Nat} {w w' : World} {t : ET} (h : Nw N w t) (hN : N' ≤ N) (hb : ∀ b, N ≤ b → b < w.heap.size → w'.heap[b]? = w.heap[b]?) : Nw N' w' t :=
  ET.In.imp (fun a v hv => by
    obtain ⟨h1, h2⟩ := hidL_cell hv
    have hlt := World.block_lt_of_cell? _ _ h2
    rw [cell_block (hidL_block w' (by omega : N' ≤ a.block)), cell_block (hb a.block h1 hlt)]
    exact h2) t h
theorem Nw.below {N N' : Nat} {w w' : World} {t : ET} (h : Nw N w t) (hN : N' ≤ N) (hb : Below w.heap.size w w') : Nw N' w' t := h.imp hN fun b _ hl => hb.block b hl
theorem Nw.fr {N N' p : Nat} {w w' : World} {t : ET} (h : Nw N w t) (hN : N' ≤ N) (hp : p < N) (hf : FrP p w w') : Nw N' w' t := h.imp hN fun b h1 hl => hf.block hl (by omega)
theorem set6_other {w : World} {q b : Nat} (h : b ≠ q) (u0 u1 u2 u3 u4 u5 : Value) : (set6 w q u0 u1 u2 u3 u4 u5).heap[b]? = w.heap[b]? := by
  unfold set6
  have hs : ∀ (w : World) i u, (w.setCell ⟨q, i, none⟩ u).heap[b]? = w.heap[b]? := fun w i u => by
    simp [World.setCell, Array.getElem?_modify, Ne.symm h]
  rw [hs, hs, hs, hs, hs, hs]
theorem set6_size {w : World} {q : Nat} (u0 u1 u2 u3 u4 u5 : Value) : (set6 w q u0 u1 u2 u3 u4 u5).heap.size = w.heap.size := by simp [set6, World.setCell]
theorem Nw.set {N N' q : Nat} {w : World} {t : ET} (h : Nw N w t) (hN : N' ≤ N) (hq : q < N) (u0 u1 u2 u3 u4 u5 : Value) : Nw N' (set6 w q u0 u1 u2 u3 u4 u5) t := h.imp hN fun b h1 hl => set6_other (by omega) _ _ _ _ _ _
theorem nw_has {N q : Nat} {w : World} {t : TypeId} {cs : Array Value} (h : Has w q t cs) (hq : N ≤ q) : Has (hidL N w) q t cs := (hidL_block w hq).trans h
theorem nw1 {N : Nat} {W : World} {q : Nat} {ty : TypeId} {x : ET} (k : Int) (op : Nm) (h : Has W q ty (cs1 x)) (hq : N ≤ q) (hx : Nw N W x) (ho : op.length ≤ 10) : Nw N W (.mk k op 0 [] [] (some ⟨q, 0, none⟩) 1 [x]) :=
  in1 k op 0 [] [] 1 (nw_has h hq) hx (okE_small _ _ _ _ ho (by omega) (by omega))
theorem nw2 {N : Nat} {W : World} {q : Nat} {ty : TypeId} {x y : ET} (k : Int) (op : Nm) (h : Has W q ty (cs2 x y)) (hq : N ≤ q) (hx : Nw N W x) (hy : Nw N W y) (ho : op.length ≤ 10) : Nw N W (.mk k op 0 [] [] (some ⟨q, 0, none⟩) 2 [x, y]) :=
  in2 k op 0 [] [] 2 (nw_has h hq) hx hy (okE_small _ _ _ _ ho (by omega) (by omega))
theorem nw_rf (N : Nat) (W : World) (v f : Nm) (hv : v.length ≤ 1000000) (hf : f.length ≤ 1000000) : Nw N W (rf v f) := in_rf _ v f hv hf
theorem nw_nm (N : Nat) (W : World) (n : Int) (h0 : -9223372036854775808 ≤ n) (h1 : n ≤ 9223372036854775807) : Nw N W (nm n) := in_nm _ n h0 h1

/- A tree without its places. -/
mutual
def ET.er : ET → ET
  | .mk k op n v f _ _ ks => .mk k op n v f none 0 (erL ks)
def erL : List ET → List ET
  | [] => []
  | t :: ts => t.er :: erL ts
end
theorem er_mk (k : Int) (op : Nm) (n : Int) (v f : Nm) (A : Option Addr) (c : Nat) (ks : List ET) : (ET.mk k op n v f A c ks).er = .mk k op n v f none 0 (erL ks) := by rw [ET.er]
theorem erL_nil : erL [] = [] := by rw [erL]
theorem erL_cons (t : ET) (ts : List ET) : erL (t :: ts) = t.er :: erL ts := by rw [erL]
/-- What a call that reads bytes makes: a tree in new memory, with nothing but the reader turned. -/
def Mk (w0 : World) (p : Nat) (L V O : Option Addr) (n c : Nat) (S : Nat) (ty : Int) (T0 : ET) (i' : Nat) (w : World) (e : Ending) (w' : World) : Prop :=
  ∃ t : ET, e = .returned (.agg (cs1 t)) ∧ t.er = T0 ∧ (rightT t = true ∧ typT t = ty ∧ t.size ≤ S) ∧ Nw w.heap.size w' t ∧ Fd w0 p L V O n c i' w' ∧ FrP p w w'
/-- The end of such a call: the value is laid in its cell. -/
theorem end_store {w0 : World} {p : Nat} {L V O : Option Addr} {n c i' : Nat} {w wk : World} (hp : p < w.heap.size) (h0 : w0.heap.size ≤ w.heap.size) (hz : Has wk w.heap.size 24 zer) (hf : Fd w0 p L V O n c i' wk) (hr : FrP p w wk) (u0 u1 u2 u3 u4 u5 : Value) (o : Obj) :
    (Fd w0 p L V O n c i' (set6 wk w.heap.size u0 u1 u2 u3 u4 u5) ∧ FrP p w (set6 wk w.heap.size u0 u1 u2 u3 u4 u5) ∧ Has (set6 wk w.heap.size u0 u1 u2 u3 u4 u5) w.heap.size 24 #[u0, u1, u2, u3, u4, u5])
    ∧ (Fd w0 p L V O n c i' ((set6 wk w.heap.size u0 u1 u2 u3 u4 u5).alloc o) ∧ FrP p w ((set6 wk w.heap.size u0 u1 u2 u3 u4 u5).alloc o) ∧ Has ((set6 wk w.heap.size u0 u1 u2 u3 u4 u5).alloc o) w.heap.size 24 #[u0, u1, u2, u3, u4, u5]) := by
  have s1 := set6_below (w := wk) (q := w.heap.size) (Nat.le_refl _) u0 u1 u2 u3 u4 u5
  have hh := set6_has hz u0 u1 u2 u3 u4 u5
  have f1 := hf.belowB s1 hp h0
  have r1 := hr.belowB hp s1
  exact ⟨⟨f1, r1, hh⟩, f1.below (step1 _ _), r1.trans (FrP.below f1.2.1.lt (step1 _ _)), hh.below (step1 _ _) hh.lt⟩
theorem right1 {k : Int} {op : Nm} {A : Option Addr} {c : Nat} {x : ET} (h : oneB k op 0 [] [] 1 = true) (hx : rightT x = true) : rightT (.mk k op 0 [] [] A c [x]) = true :=
  right_of h fun t ht => by simp at ht; subst ht; exact hx
theorem right2 {k : Int} {op : Nm} {A : Option Addr} {c : Nat} {x y : ET} (h : oneB k op 0 [] [] 2 = true) (hx : rightT x = true) (hy : rightT y = true) : rightT (.mk k op 0 [] [] A c [x, y]) = true :=
  right_of h fun t ht => by simp at ht; rcases ht with rfl | rfl <;> assumption
theorem typ1 {k : Int} {op : Nm} {A : Option Addr} {c : Nat} {x : ET} {a b : Int} (h : opT op = (a, b)) (hx : typT x = a) : typT (.mk k op 0 [] [] A c [x]) = b := by
  rw [typT_eq, h, typL_cons, typL_nil]; simp [hx]
theorem typ2 {k : Int} {op : Nm} {A : Option Addr} {c : Nat} {x y : ET} {a b : Int} (h : opT op = (a, b)) (hx : typT x = a) (hy : typT y = a) : typT (.mk k op 0 [] [] A c [x, y]) = b := by
  rw [typT_eq, h, typL_cons, typL_cons, typL_nil]; simp [hx, hy]
theorem size1 (k : Int) (op : Nm) (A : Option Addr) (c : Nat) (x : ET) : (ET.mk k op 0 [] [] A c [x]).size = x.size + 1 := by rw [size_mk, sizeL_cons, sizeL_nil]
theorem size2 (k : Int) (op : Nm) (A : Option Addr) (c : Nat) (x y : ET) : (ET.mk k op 0 [] [] A c [x, y]).size = x.size + y.size + 1 := by rw [size_mk, sizeL_cons, sizeL_cons, sizeL_nil]; omega
end Go.Proofs.YtbhjimlikffalaaDoor
