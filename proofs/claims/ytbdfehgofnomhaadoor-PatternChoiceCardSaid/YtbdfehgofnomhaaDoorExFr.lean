/- What a call leaves that turns one block alone. -/
import Derived.Test.YtbdfehgofnomhaaDoorExDef
namespace Go.Proofs.YtbdfehgofnomhaaDoor
open Go.RowKit
set_option linter.unusedVariables false

theorem set_grown (w : World) (p : Addr) (u : Value) : w.grownBy (w.setCell p u) (some p.block) :=
  ⟨rfl, rfl, rfl, by simp [World.setCell], fun k hk hne => by
    have : p.block ≠ k := fun e => hne (by rw [e])
    simp [World.setCell, Array.getElem?_modify, this]⟩
theorem cell_block {w w' : World} {p : Addr} (h : w'.heap[p.block]? = w.heap[p.block]?) : w'.cell? p = w.cell? p := by simp only [World.cell?, h]
/-- The world with block p laid aside. -/
def hidB (p : Nat) (w : World) : World := { w with heap := w.heap.setIfInBounds p (.cells #[] 0 (0, 0)) }
theorem hid_size (p : Nat) (w : World) : (hidB p w).heap.size = w.heap.size := by simp [hidB]
theorem hid_block {p q : Nat} (w : World) (h : q ≠ p) : (hidB p w).heap[q]? = w.heap[q]? := by
  unfold hidB
  simp only [Array.getElem?_setIfInBounds]
  rw [if_neg (fun e => h e.symm)]
theorem hid_same {p : Nat} (w : World) (h : p < w.heap.size) : (hidB p w).heap[p]? = some (.cells #[] 0 (0, 0)) := by
  unfold hidB
  simp [h]
theorem hid_cell {p : Nat} {w : World} {a : Addr} {v : Value} (h : (hidB p w).cell? a = some v) : w.cell? a = some v := by
  by_cases e : a.block = p
  · exfalso
    have hlt := World.block_lt_of_cell? _ _ h
    rw [hid_size] at hlt
    have h2 := hid_same (p := p) w (by rw [← e]; exact hlt)
    simp only [World.cell?, e, h2] at h
    revert h
    cases a.spot <;> simp
  · rw [← h]
    exact (cell_block (hid_block w e)).symm
theorem CellsAt.imp {w w' : World} {A : Option Addr} {i : Nat} {t : ET} (h : CellsAt w A i t) (hk : ∀ (p : Addr) v, w.cell? p = some v → w'.cell? p = some v) : CellsAt w' A i t := by
  obtain ⟨b, off, rfl, h0, h1, h2, h3, h4, h5⟩ := h
  exact ⟨b, off, rfl, hk _ _ h0, hk _ _ h1, hk _ _ h2, hk _ _ h3, hk _ _ h4, hk _ _ h5⟩
theorem ET.In.imp {w w' : World} (hk : ∀ (p : Addr) v, w.cell? p = some v → w'.cell? p = some v) : ∀ t : ET, t.In w → t.In w' :=
  ET.ind fun k op n v f A c ks ih h => .of h.ok fun j hj => ⟨(h.kids j hj).1.imp hk, ih _ (List.getElem_mem _) (h.kids j hj).2⟩
theorem in_hid {p : Nat} {w : World} {t : ET} (h : t.In (hidB p w)) : t.In w := h.imp (fun _ _ h => hid_cell h) t
/-- All blocks but p are as they were. -/
def FrP (p : Nat) (w w' : World) : Prop := Below w.heap.size (hidB p w) (hidB p w')
theorem FrP.refl (p : Nat) (w : World) : FrP p w w := Below.refl _ _
theorem FrP.size {p : Nat} {w w' : World} (h : FrP p w w') : w.heap.size ≤ w'.heap.size := by have := Below.size h; rwa [hid_size, hid_size] at this
theorem FrP.trans {p : Nat} {a b c : World} (h : FrP p a b) (h' : FrP p b c) : FrP p a c := Below.trans h (Below.mono h' h.size)
theorem FrP.block {p q : Nat} {w w' : World} (h : FrP p w w') (hq : q < w.heap.size) (hp : q ≠ p) : w'.heap[q]? = w.heap[q]? := by
  have := Below.block h q hq
  rwa [hid_block _ hp, hid_block _ hp] at this
theorem FrP.of {p : Nat} {w w' : World} (hp : p < w.heap.size) (hs : w.heap.size ≤ w'.heap.size) (hb : ∀ q, q < w.heap.size → q ≠ p → w'.heap[q]? = w.heap[q]?) (h1 : w'.os = w.os) (h2 : w'.tape = w.tape) (h3 : w'.output = w.output) : FrP p w w' :=
  ⟨h1, h2, h3, by rw [hid_size, hid_size]; exact hs, fun q hq => by
    by_cases e : q = p
    · subst e; rw [hid_same _ hp, hid_same _ (by omega)]
    · rw [hid_block _ e, hid_block _ e]; exact hb q hq e⟩
theorem FrP.below {p : Nat} {w w' : World} (hp : p < w.heap.size) (h : Below w.heap.size w w') : FrP p w w' := .of hp h.size (fun q hq _ => h.block q hq) h.os h.tape h.output
theorem FrP.low {p B : Nat} {w w' : World} (h : FrP p w w') (hB : B ≤ p) (hs : B ≤ w.heap.size) : Below B w w' := by
  have hb : Below w.heap.size (hidB p w) (hidB p w') := h
  exact ⟨hb.os, hb.tape, hb.output, h.size, fun q hq => h.block (by omega) (by omega)⟩
theorem FrP.in_ {p : Nat} {w w' : World} {t : ET} (ht : t.In (hidB p w)) (h : FrP p w w') : t.In (hidB p w') := ET.In.below ht (by rw [hid_size]; exact h)
theorem FrP.has {p q : Nat} {w w' : World} {t : TypeId} {cs : Array Value} (h : FrP p w w') (hq : Has w q t cs) (hp : q ≠ p) : Has w' q t cs := (h.block hq.lt hp).trans hq
theorem FrP.set {p : Nat} {w : World} (hp : p < w.heap.size) (i : Nat) (u : Value) : FrP p w (w.setCell ⟨p, i, none⟩ u) :=
  .of hp (by simp [World.setCell]) (fun q hq e => (set_grown w ⟨p, i, none⟩ u).block q hq (by simpa using e)) rfl rfl rfl
/-- A tree that lies in the world with one more block, none of it in p. -/
theorem hid_has {p q : Nat} {w : World} {t : TypeId} {cs : Array Value} (h : Has w q t cs) (hq : q ≠ p) : Has (hidB p w) q t cs := (hid_block w hq).trans h

end Go.Proofs.YtbdfehgofnomhaaDoor
