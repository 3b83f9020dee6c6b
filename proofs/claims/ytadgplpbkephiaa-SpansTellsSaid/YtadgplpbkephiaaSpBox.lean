/- A variable that holds intervals: what a store into it leaves. -/
import Derived.Test.YtadgplpbkephiaaSpFns
import Derived.Test.YtadgplpbkephiaaSpAdd
import Derived.Test.YtadgplpbkephiaaSpSame
namespace Go.Proofs.Ytadgplpbkephiaa
open Go.RowKit
set_option linter.unusedVariables false

/-- Numbers that lie somewhere don't lie in a box that holds a slice. -/
theorem lies_set {w : World} {A : Option Addr} {xs : List Value} (h : Lies w A xs) (hx : ∀ u ∈ xs, ∃ k n, u = .int k n) {g : Nat} {t : TypeId} {B : Option Addr} {m d : Nat} (hb : Has w g t #[.slice B m d]) (u : Value) : Lies (w.setCell ⟨g, 0, none⟩ u) A xs := fun i v hv => by
  obtain ⟨x, e, hc⟩ := h i v hv
  refine ⟨x, e, ?_⟩
  rw [← hc]
  refine World.cell?_of_block (Below.heap_setCell _ _ _ _ fun e1 => ?_)
  obtain ⟨b, off, e2, h2⟩ := h.at_ hv
  rw [e] at e2
  cases e2
  have e3 : b = g := by unfold Addr.add at e1; split at e1 <;> exact e1
  subst e3
  obtain ⟨k, n, rfl⟩ := hx v (List.mem_of_getElem? hv)
  rw [hb.cell] at h2
  match off + i, h2 with
  | 0, h2 => simp at h2
  | j + 1, h2 => simp at h2
theorem icells_ints (S : List Sp) : ∀ u ∈ icells S, ∃ k n, u = Value.int k n := by
  intro u hu
  simp only [icells, List.mem_flatMap] at hu
  obtain ⟨b, _, hb⟩ := hu
  simp at hb
  rcases hb with rfl | rfl <;> exact ⟨_, _, rfl⟩
theorem Sl.set {w : World} {A : Option Addr} {n c : Nat} {S : List Sp} (h : Sl w A n c S) {g : Nat} {t : TypeId} {B : Option Addr} {m d : Nat} (hb : Has w g t #[.slice B m d]) (u : Value) : Sl (w.setCell ⟨g, 0, none⟩ u) A n c S :=
  ⟨h.len, lies_set h.lies (icells_ints S) hb u, h.nil, h.le, h.max, h.shp⟩
theorem Li.set {w : World} {A : Option Addr} {n c : Nat} {l : List Int} (h : Li w A n c l) {g : Nat} {t : TypeId} {B : Option Addr} {m d : Nat} (hb : Has w g t #[.slice B m d]) (u : Value) : Li (w.setCell ⟨g, 0, none⟩ u) A n c l :=
  ⟨h.len, lies_set h.lies (fun v hv => by obtain ⟨x, _, rfl⟩ := List.mem_map.1 hv; exact ⟨_, _, rfl⟩) hb u, h.le, h.max⟩
theorem Has.set1 {w : World} {g : Nat} {t : TypeId} {v u : Value} (h : Has w g t #[v]) : Has (w.setCell ⟨g, 0, none⟩ u) g t #[u] := by
  have := h.put 0 u
  simpa using this
theorem Has.other {w : World} {g q : Nat} {t : TypeId} {cs : Array Value} (h : Has w g t cs) (hq : g ≠ q) (u : Value) : Has (w.setCell ⟨q, 0, none⟩ u) g t cs := (Below.heap_setCell _ _ _ _ hq).trans h
/-- A variable at g that holds S. -/
structure Bx (w : World) (g : Nat) (t : TypeId) (A : Option Addr) (n c : Nat) (S : List Sp) : Prop where
  box : Has w g t #[.slice A n c]
  sl : Sl w A n c S
theorem Bx.below {w w' : World} {g : Nat} {t : TypeId} {A : Option Addr} {n c : Nat} {S : List Sp} (h : Bx w g t A n c S) (hb : Below w.heap.size w w') : Bx w' g t A n c S := ⟨h.box.below hb h.box.lt, h.sl.below hb⟩
theorem Bx.drew {w : World} {g : Nat} {t : TypeId} {A : Option Addr} {n c : Nat} {S : List Sp} (h : Bx w g t A n c S) : Bx w.drew g t A n c S := h.below (Below.refl _ _).drew
/-- What is stored. -/
theorem Bx.set {w : World} {g : Nat} {t : TypeId} {A : Option Addr} {n c : Nat} {S : List Sp} (h : Bx w g t A n c S) {B : Option Addr} {m d : Nat} {T : List Sp} (k : Sl w B m d T) : Bx (w.setCell ⟨g, 0, none⟩ (.slice B m d)) g t B m d T := ⟨h.box.set1, k.set h.box _⟩
/-- Another variable stays. -/
theorem Bx.other {w : World} {g : Nat} {t : TypeId} {A : Option Addr} {n c : Nat} {S : List Sp} (h : Bx w g t A n c S) {q : Nat} {t' : TypeId} {B : Option Addr} {m d : Nat} (k : Has w q t' #[.slice B m d]) (hq : g ≠ q) (u : Value) : Bx (w.setCell ⟨q, 0, none⟩ u) g t A n c S := ⟨h.box.other hq u, h.sl.set k u⟩
end Go.Proofs.Ytadgplpbkephiaa
