/- Layer 7: trees in new memory; six cells stored (what serves any reader of bytes). -/
import Derived.Test.YtbdfehgofnomhaaDoorExTr
import Derived.Test.YtbdfehgofnomhaaDoorExFr
namespace Go.Proofs.YtbdfehgofnomhaaDoor
open Go.RowKit
set_option linter.unusedVariables false

abbrev zer : Array Value := #[.int .i64 0, .string { data := #[] }, .int .i64 0, .string { data := #[] }, .string { data := #[] }, .slice none 0 0]
theorem FrP.belowB {p : Nat} {w w1 w' : World} (h : FrP p w w1) (hp : p < w.heap.size) (hb : Below w.heap.size w1 w') : FrP p w w' :=
  .of hp (Nat.le_trans h.size hb.size) (fun q hq e => (hb.block q hq).trans (h.block hq e)) (hb.os.trans (show Below w.heap.size (hidB p w) (hidB p w1) from h).os) (hb.tape.trans (show Below w.heap.size (hidB p w) (hidB p w1) from h).tape) (hb.output.trans (show Below w.heap.size (hidB p w) (hidB p w1) from h).output)
/-- All six cells of a block set anew, as a store of a value does. -/
def set6 (w : World) (q : Nat) (u0 u1 u2 u3 u4 u5 : Value) : World := (((((w.setCell ⟨q, 0, none⟩ u0).setCell ⟨q, 1, none⟩ u1).setCell ⟨q, 2, none⟩ u2).setCell ⟨q, 3, none⟩ u3).setCell ⟨q, 4, none⟩ u4).setCell ⟨q, 5, none⟩ u5
theorem set6_has {w : World} {q : Nat} {t : TypeId} {z0 z1 z2 z3 z4 z5 : Value} (h : Has w q t #[z0, z1, z2, z3, z4, z5]) (u0 u1 u2 u3 u4 u5 : Value) : Has (set6 w q u0 u1 u2 u3 u4 u5) q t #[u0, u1, u2, u3, u4, u5] := by
  have := (((((h.put 0 u0).put 1 u1).put 2 u2).put 3 u3).put 4 u4).put 5 u5
  unfold set6
  simpa using this
theorem set6_below {w : World} {q B : Nat} (h : B ≤ q) (u0 u1 u2 u3 u4 u5 : Value) : Below B w (set6 w q u0 u1 u2 u3 u4 u5) :=
  (((((((Below.refl B w).setCell (p := ⟨q, 0, none⟩) h _).setCell (p := ⟨q, 1, none⟩) h _).setCell (p := ⟨q, 2, none⟩) h _).setCell (p := ⟨q, 3, none⟩) h _).setCell (p := ⟨q, 4, none⟩) h _).setCell (p := ⟨q, 5, none⟩) h _)
theorem set6_fold (w : World) (q : Nat) (u0 u1 u2 u3 u4 u5 : Value) : (((((w.setCell ⟨q, 0, none⟩ u0).setCell ⟨q, 1, none⟩ u1).setCell ⟨q, 2, none⟩ u2).setCell ⟨q, 3, none⟩ u3).setCell ⟨q, 4, none⟩ u4).setCell ⟨q, 5, none⟩ u5 = set6 w q u0 u1 u2 u3 u4 u5 := rfl
theorem six_free {w : World} {q : Nat} {t : TypeId} {cs : Array Value} (h : Has w q t cs) : w.frozen? ⟨q, 0, none⟩ = false ∧ w.frozen? ⟨q, 1, none⟩ = false ∧ w.frozen? ⟨q, 2, none⟩ = false ∧ w.frozen? ⟨q, 3, none⟩ = false ∧ w.frozen? ⟨q, 4, none⟩ = false ∧ w.frozen? ⟨q, 5, none⟩ = false :=
  ⟨h.free 0, h.free 1, h.free 2, h.free 3, h.free 4, h.free 5⟩
theorem zer_six {w : World} {q : Nat} {t : TypeId} (h : Has w q t zer) : w.cell? ⟨q, 0, none⟩ = some (.int .i64 0) ∧ w.cell? ⟨q, 1, none⟩ = some (.string { data := #[] }) ∧ w.cell? ⟨q, 2, none⟩ = some (.int .i64 0) ∧ w.cell? ⟨q, 3, none⟩ = some (.string { data := #[] }) ∧ w.cell? ⟨q, 4, none⟩ = some (.string { data := #[] }) ∧ w.cell? ⟨q, 5, none⟩ = some (.slice none 0 0) :=
  ⟨h.cell 0, h.cell 1, h.cell 2, h.cell 3, h.cell 4, h.cell 5⟩
theorem tmod_of {x : Int} (h : 0 ≤ x) (k : Int) : x.tmod k = x % k := Int.tmod_eq_emod_of_nonneg h
theorem tdiv_of {x : Int} (h : 0 ≤ x) (k : Int) : x.tdiv k = x / k := Int.tdiv_eq_ediv_of_nonneg h
/-- The world with all blocks below N laid aside. -/
def hidL (N : Nat) (w : World) : World := { w with heap := w.heap.mapIdx fun i o => if i < N then .cells #[] 0 (0, 0) else o }
theorem hidL_size (N : Nat) (w : World) : (hidL N w).heap.size = w.heap.size := by simp [hidL]
theorem hidL_block {N q : Nat} (w : World) (h : N ≤ q) : (hidL N w).heap[q]? = w.heap[q]? := by
  unfold hidL
  simp only [Array.getElem?_mapIdx]
  cases w.heap[q]? with
  | none => rfl
  | some o => simp [show ¬ q < N by omega]
theorem hidL_cell {N : Nat} {w : World} {a : Addr} {v : Value} (h : (hidL N w).cell? a = some v) : N ≤ a.block ∧ w.cell? a = some v := by
  by_cases e : N ≤ a.block
  · exact ⟨e, by rw [← h]; exact (cell_block (hidL_block w e)).symm⟩
  · exfalso
    have hlt := World.block_lt_of_cell? _ _ h
    rw [hidL_size] at hlt
    have h2 : (hidL N w).heap[a.block]? = some (.cells #[] 0 (0, 0)) := by
      unfold hidL
      simp [hlt, show a.block < N by omega]
    simp only [World.cell?, h2] at h
    revert h
    cases a.spot <;> simp
/-- t lies in w, in blocks from N on. -/
def Nw (N : Nat) (w : World) (t : ET) : Prop := t.In (hidL N w)
theorem Nw.in_ {N : Nat} {w : World} {t : ET} (h : Nw N w t) : t.In w := ET.In.imp (fun _ _ h => (hidL_cell h).2) t h
theorem Nw.imp {N N' : Nat} {w w' : World} {t : ET} (h : Nw N w t) (hN : N' ≤ N) (hb : ∀ b, N ≤ b → b < w.heap.size → w'.heap[b]? = w.heap[b]?) : Nw N' w' t :=
  ET.In.imp (fun a v hv => by
    obtain ⟨h1, h2⟩ := hidL_cell hv
    have hlt := World.block_lt_of_cell? _ _ h2
    rw [cell_block (hidL_block w' (by omega : N' ≤ a.block)), cell_block (hb a.block h1 hlt)]
    exact h2) t h
theorem Nw.below {N N' : Nat} {w w' : World} {t : ET} (h : Nw N w t) (hN : N' ≤ N) (hb : Below w.heap.size w w') : Nw N' w' t := h.imp hN fun b _ hl => hb.block b hl
theorem Nw.fr {N N' p : Nat} {w w' : World} {t : ET} (h : Nw N w t) (hN : N' ≤ N) (hp : p < N) (hf : FrP p w w') : Nw N' w' t := h.imp hN fun b h1 hl => hf.block hl (by omega)
theorem set6_other {w : World} {q b : Nat} (h : b ≠ q) (u0 u1 u2 u3 u4 u5 : Value) : (set6 w q u0 u1 u2 u3 u4 u5).heap[b]? = w.heap[b]? := by
  unfold set6
  have hs : ∀ (w : World) i u, (w.setCell ⟨q, i, none⟩ u).heap[b]? = w.heap[b]? := fun w i u => by
    simp [World.setCell, Array.getElem?_modify, Ne.symm h]
  rw [hs, hs, hs, hs, hs, hs]
theorem set6_size {w : World} {q : Nat} (u0 u1 u2 u3 u4 u5 : Value) : (set6 w q u0 u1 u2 u3 u4 u5).heap.size = w.heap.size := by simp [set6, World.setCell]
theorem Nw.set {N N' q : Nat} {w : World} {t : ET} (h : Nw N w t) (hN : N' ≤ N) (hq : q < N) (u0 u1 u2 u3 u4 u5 : Value) : Nw N' (set6 w q u0 u1 u2 u3 u4 u5) t := h.imp hN fun b h1 hl => set6_other (by omega) _ _ _ _ _ _
theorem nw_has {N q : Nat} {w : World} {t : TypeId} {cs : Array Value} (h : Has w q t cs) (hq : N ≤ q) : Has (hidL N w) q t cs := (hidL_block w hq).trans h
theorem nw1 {N : Nat} {W : World} {q : Nat} {ty : TypeId} {x : ET} (k : Int) (op : Nm) (h : Has W q ty (cs1 x)) (hq : N ≤ q) (hx : Nw N W x) (ho : op.length ≤ 10) : Nw N W (.mk k op 0 [] [] (some ⟨q, 0, none⟩) 1 [x]) :=
  in1 k op 0 [] [] 1 (nw_has h hq) hx (okE_small _ _ _ _ ho (by omega) (by omega))
theorem nw2 {N : Nat} {W : World} {q : Nat} {ty : TypeId} {x y : ET} (k : Int) (op : Nm) (h : Has W q ty (cs2 x y)) (hq : N ≤ q) (hx : Nw N W x) (hy : Nw N W y) (ho : op.length ≤ 10) : Nw N W (.mk k op 0 [] [] (some ⟨q, 0, none⟩) 2 [x, y]) :=
  in2 k op 0 [] [] 2 (nw_has h hq) hx hy (okE_small _ _ _ _ ho (by omega) (by omega))
theorem nw_rf (N : Nat) (W : World) (v f : Nm) (hv : v.length ≤ 1000000) (hf : f.length ≤ 1000000) : Nw N W (rf v f) := in_rf _ v f hv hf
theorem nw_nm (N : Nat) (W : World) (n : Int) (h0 : -9223372036854775808 ≤ n) (h1 : n ≤ 9223372036854775807) : Nw N W (nm n) := in_nm _ n h0 h1

theorem right1 {k : Int} {op : Nm} {A : Option Addr} {c : Nat} {x : ET} (h : oneB k op 0 [] [] 1 = true) (hx : rightT x = true) : rightT (.mk k op 0 [] [] A c [x]) = true :=
  right_of h fun t ht => by simp at ht; subst ht; exact hx
theorem right2 {k : Int} {op : Nm} {A : Option Addr} {c : Nat} {x y : ET} (h : oneB k op 0 [] [] 2 = true) (hx : rightT x = true) (hy : rightT y = true) : rightT (.mk k op 0 [] [] A c [x, y]) = true :=
  right_of h fun t ht => by simp at ht; rcases ht with rfl | rfl <;> assumption
theorem typ1 {k : Int} {op : Nm} {A : Option Addr} {c : Nat} {x : ET} {a b : Int} (h : opT op = (a, b)) (hx : typT x = a) : typT (.mk k op 0 [] [] A c [x]) = b := by
  rw [typT_eq, h, typL_cons, typL_nil]; simp [hx]
theorem typ2 {k : Int} {op : Nm} {A : Option Addr} {c : Nat} {x y : ET} {a b : Int} (h : opT op = (a, b)) (hx : typT x = a) (hy : typT y = a) : typT (.mk k op 0 [] [] A c [x, y]) = b := by
  rw [typT_eq, h, typL_cons, typL_cons, typL_nil]; simp [hx, hy]
theorem size1 (k : Int) (op : Nm) (A : Option Addr) (c : Nat) (x : ET) : (ET.mk k op 0 [] [] A c [x]).size = x.size + 1 := by rw [size_mk, sizeL_cons, sizeL_nil]
theorem size2 (k : Int) (op : Nm) (A : Option Addr) (c : Nat) (x y : ET) : (ET.mk k op 0 [] [] A c [x, y]).size = x.size + y.size + 1 := by rw [size_mk, sizeL_cons, sizeL_cons, sizeL_nil]; omega
end Go.Proofs.YtbdfehgofnomhaaDoor
