/- ValueLooks: what its loops find; a copy of what is bound. -/
import Derived.Test.YtaiohdcngkkafaaDoorVaBindsW
namespace Go.Proofs.YtaiohdcngkkafaaDoor
open Go.RowKit
set_option linter.unusedVariables false

theorem bdcells_cell {l : List Bd} {w : World} {b off : Nat} (h : ∀ i x, l[i]? = some x → w.cell? ⟨b, off + i * 3, none⟩ = some (.string (str x.v)) ∧ w.cell? ⟨b, off + i * 3 + 1, none⟩ = some (.slice x.A x.fs.length x.c) ∧ w.cell? ⟨b, off + i * 3 + 2, none⟩ = some (.slice x.B x.vs.length x.d)) :
    ∀ j u, (bdcells l)[j]? = some u → w.cell? ((⟨b, off, none⟩ : Addr).add j) = some u := by
  intro j u hu
  have hj : j < (bdcells l).length := by
    rcases Nat.lt_or_ge j (bdcells l).length with h1 | h1
    · exact h1
    · rw [List.getElem?_eq_none h1] at hu; cases hu
  rw [bdcells_len] at hj
  have hi : j / 3 < l.length := by omega
  obtain ⟨h0, h1, h2⟩ := h (j / 3) l[j / 3] (by simp [hi])
  obtain ⟨c0, c1, c2⟩ := bdcells_get (l := l) (i := j / 3) (x := l[j / 3]) (by simp [hi])
  rw [Go.WideShapes.add_plain]
  have hr : j = j / 3 * 3 ∨ j = j / 3 * 3 + 1 ∨ j = j / 3 * 3 + 2 := by omega
  generalize j / 3 = i at *
  rcases hr with rfl | rfl | rfl
  · rw [c0] at hu; cases hu; exact h0
  · rw [c1] at hu; cases hu; rw [← Nat.add_assoc]; exact h1
  · rw [c2] at hu; cases hu; rw [← Nat.add_assoc]; exact h2
theorem bdcells_one (l : List Bd) : ∀ u ∈ bdcells l, u.oneCell' = true := by
  intro u hu
  simp only [bdcells, List.mem_flatMap, bc] at hu
  obtain ⟨x, _, hx⟩ := hu
  simp at hx
  rcases hx with rfl | rfl | rfl <;> rfl
/-- append(nil, b...): a slice of the call's own. -/
theorem BW.copy {w : World} {A : Option Addr} {c : Nat} {l : List Bd} (h : Bds w A c l) (h0 : 0 < l.length) (hl : l.length ≤ 1000) :
    ∃ v' w', (Builtin.append_ #[51, 51] 51 #[.slice none 0 0, .slice A l.length c]).run Tryd.prog w = .ok v' w' ∧ BW w' w.heap.size v' l ∧ Below w.heap.size w w' := by
  obtain ⟨b, off, rfl, -, -, -⟩ := (h.1 0 l[0] (by simp [h0])).1
  obtain ⟨i0, hi, hz0, hz1, hz2⟩ := info_parts info_bind
  have hlie := bdcells_cell (l := l) (w := w) (b := b) (off := off) (fun i x hx => by
    obtain ⟨b', off', e, g0, g1, g2⟩ := (h.1 i x hx).1
    cases e
    exact ⟨g0, g1, g2⟩)
  obtain ⟨v', w', r1, r2, r3, _, r4⟩ := run_append_own_at (P := Tryd.prog) w w.heap.size 51 51 71 i0 (.agg #[.string { data := #[] }, .slice none 0 0, .slice none 0 0]) 3 64 Tryd.underlying51 hi hz0 hz1 hz2 rfl (by omega) (.slice none 0 0) 0 [] (World.ownsRow_nil w _ _ 3)
    ⟨b, off, none⟩ l.length c (bdcells l) (bdcells_len l) hlie (bdcells_one l) (by unfold maxLen; omega) (by omega) (Nat.le_refl _)
  have hne : ∀ k, k < w.heap.size → v'.ownBlock ≠ some k := fun k hk e => by have := (r2.lt k e).1; omega
  have hb : Below w.heap.size w w' := (Below.refl w.heap.size w).grown r3 (Nat.le_refl _) (fun j hj => by cases hj)
  refine ⟨v', w', r1, ⟨by simpa using r2, fun x hx => ?_⟩, hb⟩
  obtain ⟨i, hi2, rfl⟩ := List.getElem_of_mem hx
  have hxx := h.1 i l[i] (by simp [hi2])
  refine ⟨⟨hxx.2.1.below hb, hxx.2.2.below hb⟩, fun hm a ha => ?_, fun hm a ha => ?_⟩
  · obtain ⟨b1, o1, e, hc⟩ := hxx.2.1.shape hm
    rw [ha] at e
    cases e
    exact hne _ (World.block_lt_of_cell? _ _ (hc 0 hm))
  · obtain ⟨b1, o1, e, hc⟩ := hxx.2.2.at_ hm
    rw [ha] at e
    cases e
    exact hne _ (World.block_lt_of_cell? _ _ hc)
/-- How far the first loop has come. -/
def LastAt (l : List Bd) (n : Nm) (k : Nat) (L : Int) : Prop := -1 ≤ L ∧ L < k ∧ (∀ i (h : i < l.length), (i : Int) = L → (l[i].v == n) = true) ∧ ∀ i (h : i < l.length), i < k → L < i → (l[i].v == n) = false
theorem LastAt.zero (l : List Bd) (n : Nm) : LastAt l n 0 (-1) := ⟨by omega, by omega, fun i _ h => by omega, fun i _ h => by omega⟩
theorem LastAt.yes {l : List Bd} {n : Nm} {k : Nat} {L : Int} (h : LastAt l n k L) (hk : k < l.length) (hm : (l[k].v == n) = true) : LastAt l n (k + 1) k :=
  ⟨by omega, by omega, fun i hi e => (by obtain rfl : i = k := (by omega); exact hm), fun i hi h1 h2 => by omega⟩
theorem LastAt.no {l : List Bd} {n : Nm} {k : Nat} {L : Int} (h : LastAt l n k L) (hk : k < l.length) (hm : (l[k].v == n) = false) : LastAt l n (k + 1) L :=
  ⟨h.1, by have := h.2.1; omega, h.2.2.1, fun i hi h1 h2 => by
    by_cases e : i = k
    · subst e; exact hm
    · exact h.2.2.2 i hi (by omega) h2⟩
theorem LastAt.none_ {l : List Bd} {n : Nm} {L : Int} (h : LastAt l n l.length L) (hL : L < 0) (f : Nm) : lookV l n f = (0, false) := look_none f fun i hi => h.2.2.2 i hi hi (by omega)
theorem LastAt.some_ {l : List Bd} {n : Nm} {j : Nat} (h : LastAt l n l.length j) (hj : j < l.length) (f : Nm) : lookV l n f = fieldV l[j] f :=
  look_at f j hj (h.2.2.1 j hj rfl) fun i hi hg => h.2.2.2 i hi hi (by omega)
/-- How far the second loop has come, from the end. -/
def FstAt (l : List Nm) (f : Nm) (K Q : Int) : Prop := -1 ≤ K ∧ K < l.length ∧ (Q = -1 ∨ K < Q ∧ Q < l.length) ∧ (∀ i (h : i < l.length), (i : Int) = Q → (l[i] == f) = true) ∧ ∀ i (h : i < l.length), K < i → (Q = -1 ∨ (i : Int) < Q) → (l[i] == f) = false
theorem FstAt.start (l : List Nm) (f : Nm) : FstAt l f ((l.length : Int) - 1) (-1) := ⟨by omega, by omega, .inl rfl, fun i _ h => by omega, fun i h h1 => by omega⟩
theorem FstAt.yes {l : List Nm} {f : Nm} {k : Nat} {Q : Int} (h : FstAt l f k Q) (hk : k < l.length) (hm : (l[k] == f) = true) : FstAt l f ((k : Int) - 1) k :=
  ⟨by omega, by omega, .inr ⟨by omega, by omega⟩, fun i hi e => (by obtain rfl : i = k := (by omega); exact hm), fun i hi h1 h2 => (by rcases h2 with h2 | h2 <;> omega)⟩
theorem FstAt.no {l : List Nm} {f : Nm} {k : Nat} {Q : Int} (h : FstAt l f k Q) (hk : k < l.length) (hm : (l[k] == f) = false) : FstAt l f ((k : Int) - 1) Q :=
  ⟨by omega, by omega, h.2.2.1.imp id (fun h1 => ⟨by omega, h1.2⟩), h.2.2.2.1, fun i hi h1 h2 => by
    by_cases e : i = k
    · subst e; exact hm
    · exact h.2.2.2.2 i hi (by omega) h2⟩
theorem FstAt.done {l : List Nm} {f : Nm} {Q : Int} (h : FstAt l f (-1) Q) : indexV l f = Q := by
  rcases h.2.2.1 with rfl | ⟨h1, h2⟩
  · exact idx_none _ _ fun i hi => h.2.2.2.2 i hi (by omega) (.inl rfl)
  · obtain ⟨q, rfl⟩ : ∃ q : Nat, Q = (q : Int) := ⟨Q.toNat, by omega⟩
    exact idx_at _ _ q (by omega) (h.2.2.2.1 q (by omega) rfl) fun i hi hlt => h.2.2.2.2 i hi (by omega) (.inr (by omega))
end Go.Proofs.YtaiohdcngkkafaaDoor
