/- Kinds of events in memory: texts, slices of texts, slices of kinds; what they keep when other memory is made. -/
import Derived.Test.YtblpbgknnnpamaaDoorBase
import Derived.Test.YtblpbgknnnpamaaDoorApp
import Derived.LoopTactic
namespace Go.Proofs.YtblpbgknnnpamaaDoor
open Go.RowKit
set_option linter.unusedVariables false

/-- A text, as its bytes. -/
abbrev Nm := List UInt8
/-- A kind: its name, its fields. -/
abbrev Kd := Nm × List Nm
/-- A slice of texts. -/
def Strs (w : World) (A : Option Addr) (c : Nat) (l : List Nm) : Prop := Lies w A (l.map fun s => Value.string (str s)) ∧ (A = none → c = 0) ∧ l.length ≤ c ∧ c ≤ maxLen
theorem Strs.below {w w' : World} {A : Option Addr} {c : Nat} {l : List Nm} (h : Strs w A c l) (hb : Below w.heap.size w w') : Strs w' A c l := ⟨h.1.below hb, h.2⟩
theorem Strs.nil (w : World) : Strs w none 0 [] := ⟨fun i u hu => by simp at hu, fun _ => rfl, Nat.le_refl _, Nat.zero_le _⟩
theorem Strs.cap {w : World} {A : Option Addr} {c : Nat} {l : List Nm} (h : Strs w A c l) : l.length ≤ 9223372036854775807 := by
  have := h.2.2; unfold maxLen at this; omega
theorem Strs.shape {w : World} {A : Option Addr} {c : Nat} {l : List Nm} (h : Strs w A c l) (h0 : 0 < l.length) :
    ∃ b off, A = some ⟨b, off, none⟩ ∧ ∀ i (hi : i < l.length), w.cell? ⟨b, off + i, none⟩ = some (.string (str l[i])) := by
  obtain ⟨b, off, rfl, _⟩ := h.1.at_ (i := 0) (u := .string (str l[0])) (by simp [h0])
  refine ⟨b, off, rfl, fun i hi => ?_⟩
  obtain ⟨b', off', e, hc⟩ := h.1.at_ (i := i) (u := .string (str l[i])) (by simp [hi])
  cases e
  exact hc
/-- The first ones of a slice of texts. -/
theorem Strs.take {w : World} {A : Option Addr} {c : Nat} {l : List Nm} (h : Strs w A c l) (k : Nat) : Strs w A c (l.take k) := by
  refine ⟨fun i u hu => ?_, h.2.1, by have := h.2.2.1; simp; omega, h.2.2.2⟩
  refine h.1 i u ?_
  rw [List.map_take, List.getElem?_take] at hu
  split at hu
  · exact hu
  · cases hu

/-- A slice of kinds. -/
def Kinds (w : World) (A : Option Addr) (c : Nat) (l : List Kd) : Prop :=
  (∀ i k, l[i]? = some k → ∃ (b off : Nat) (B : Option Addr) (d : Nat), A = some ⟨b, off, none⟩ ∧ w.cell? ⟨b, off + i * 2, none⟩ = some (.string (str k.1)) ∧ w.cell? ⟨b, off + i * 2 + 1, none⟩ = some (.slice B k.2.length d) ∧ Strs w B d k.2)
    ∧ (A = none → c = 0) ∧ l.length ≤ c ∧ c ≤ maxLen
theorem Kinds.below {w w' : World} {A : Option Addr} {c : Nat} {l : List Kd} (h : Kinds w A c l) (hb : Below w.heap.size w w') : Kinds w' A c l := by
  refine ⟨fun i k hk => ?_, h.2⟩
  obtain ⟨b, off, B, d, rfl, h1, h2, h3⟩ := h.1 i k hk
  exact ⟨b, off, B, d, rfl, (hb.cell (World.block_lt_of_cell? _ _ h1)).trans h1, (hb.cell (World.block_lt_of_cell? _ _ h2)).trans h2, h3.below hb⟩
theorem Kinds.nil (w : World) : Kinds w none 0 [] := ⟨fun i u hu => by simp at hu, fun _ => rfl, Nat.le_refl _, Nat.zero_le _⟩
theorem Kinds.cap {w : World} {A : Option Addr} {c : Nat} {l : List Kd} (h : Kinds w A c l) : l.length ≤ 9223372036854775807 := by
  have := h.2.2; unfold maxLen at this; omega
theorem Kinds.take {w : World} {A : Option Addr} {c : Nat} {l : List Kd} (h : Kinds w A c l) (k : Nat) : Kinds w A c (l.take k) := by
  refine ⟨fun i u hu => ?_, h.2.1, by have := h.2.2.1; simp; omega, h.2.2.2⟩
  refine h.1 i u ?_
  rw [List.getElem?_take] at hu
  split at hu
  · exact hu
  · cases hu
theorem Kinds.shape {w : World} {A : Option Addr} {c : Nat} {l : List Kd} (h : Kinds w A c l) (h0 : 0 < l.length) :
    ∃ b off, A = some ⟨b, off, none⟩ ∧ ∀ i (hi : i < l.length), ∃ B d, w.cell? ⟨b, off + i * 2, none⟩ = some (.string (str l[i].1)) ∧ w.cell? ⟨b, off + i * 2 + 1, none⟩ = some (.slice B l[i].2.length d) ∧ Strs w B d l[i].2 := by
  obtain ⟨b, off, B, d, rfl, _⟩ := h.1 0 l[0] (by simp [h0])
  refine ⟨b, off, rfl, fun i hi => ?_⟩
  obtain ⟨b', off', B', d', e, hc⟩ := h.1 i l[i] (by simp [hi])
  cases e
  exact ⟨B', d', hc⟩

/-- The first place at which a test holds; -1, if there is none. -/
def idx {α : Type} (p : α → Bool) (l : List α) : Int := match l.findIdx? p with
  | some i => (i : Int)
  | none => -1
theorem idx_at {α : Type} (p : α → Bool) (l : List α) (k : Nat) (hk : k < l.length) (hp : p l[k] = true) (hb : ∀ i (h : i < l.length), i < k → p l[i] = false) : idx p l = k := by
  unfold idx
  have : l.findIdx? p = some k := by
    rw [List.findIdx?_eq_some_iff_getElem]
    exact ⟨hk, hp, fun j hj => by simpa using hb j (by omega) hj⟩
  rw [this]
theorem idx_none {α : Type} (p : α → Bool) (l : List α) (hb : ∀ i (h : i < l.length), p l[i] = false) : idx p l = -1 := by
  unfold idx
  have : l.findIdx? p = none := by
    rw [List.findIdx?_eq_none_iff]
    intro x hx
    obtain ⟨i, hi, rfl⟩ := List.getElem_of_mem hx
    exact hb i hi
  rw [this]
theorem str_eq (a b : Nm) : (str a).toList = a := str_toList a
end Go.Proofs.YtblpbgknnnpamaaDoor
