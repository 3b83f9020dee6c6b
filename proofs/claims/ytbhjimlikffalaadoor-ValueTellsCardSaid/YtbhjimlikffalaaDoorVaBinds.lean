/- Layer 8: binds: what is bound, by numbers. -/
import Derived.Test.YtbhjimlikffalaaDoorVaOwn
import Derived.Test.YtbhjimlikffalaaDoorScRowDef
import Derived.Deep.RegionLaw
namespace Go.Proofs.YtbhjimlikffalaaDoor
open Go.RowKit
set_option linter.unusedVariables false

/-- The names, the fields. -/
def bn4 : List Nm := [[97], [98], [99], [97]]
def bf4 : List (List Nm) := [[[107], [120]], [[107], [121]], [[120], [107], [120]], [[107]]]
theorem bn_at : ∀ j, j < 4 → ∃ s, bn4[j]? = some s ∧ s.length ≤ 10
  | 0, _ => ⟨_, rfl, by decide⟩
  | 1, _ => ⟨_, rfl, by decide⟩
  | 2, _ => ⟨_, rfl, by decide⟩
  | 3, _ => ⟨_, rfl, by decide⟩
  | n + 4, h => absurd h (by omega)
/-- What binds makes ahead of its loop. -/
abbrev bnW (w : World) : World := (((((w.alloc (.cells #[.string { data := #[97] }, .string { data := #[98] }, .string { data := #[99] }, .string { data := #[97] }] 9)).alloc (.cells #[.string { data := #[107] }, .string { data := #[120] }] 9)).alloc (.cells #[.string { data := #[107] }, .string { data := #[121] }] 9)).alloc (.cells #[.string { data := #[120] }, .string { data := #[107] }, .string { data := #[120] }] 9)).alloc (.cells #[.string { data := #[107] }] 9)).alloc (.cells #[.slice (some ⟨w.heap.size + 1, 0, none⟩) 2 2, .slice (some ⟨w.heap.size + 1 + 1, 0, none⟩) 2 2, .slice (some ⟨w.heap.size + 1 + 1 + 1, 0, none⟩) 3 3, .slice (some ⟨w.heap.size + 1 + 1 + 1 + 1, 0, none⟩) 1 1] 35)
/-- What the loop reads of it. -/
structure Bn (N : Nat) (w : World) : Prop where
  names : ∀ j s, bn4[j]? = some s → w.cell? ⟨N, j, none⟩ = some (.string (str s))
  flds : ∀ j, j < 4 → ∃ F fs, w.cell? ⟨N + 1 + 1 + 1 + 1 + 1, j, none⟩ = some (.slice (some ⟨F, 0, none⟩) fs.length fs.length) ∧ Strs w (some ⟨F, 0, none⟩) fs.length fs ∧ F < N + 1 + 1 + 1 + 1 + 1
theorem Bn.below {N : Nat} {w w' : World} (h : Bn N w) (hb : Below w.heap.size w w') : Bn N w' :=
  ⟨fun j s hs => (hb.cell (World.block_lt_of_cell? _ _ (h.names j s hs))).trans (h.names j s hs), fun j hj => by
    obtain ⟨F, fs, h1, h2, h3⟩ := h.flds j hj
    exact ⟨F, fs, (hb.cell (World.block_lt_of_cell? _ _ h1)).trans h1, h2.below hb, h3⟩⟩
theorem bn_of (w : World) : Bn w.heap.size (bnW w) ∧ Below w.heap.size w (bnW w) := by
  have key : ∀ (W : World) (k : Nat) (o : Obj) (cs : List Value) (t : TypeId), W.heap.size = w.heap.size + k → Below w.heap.size w W → o = .cells cs.toArray t (0, 0) → ∃ W', W.alloc o = W' ∧ W'.heap.size = w.heap.size + k + 1 ∧ Below w.heap.size w W' ∧ Below W.heap.size W W' ∧ Lies W' (some ⟨w.heap.size + k, 0, none⟩) cs := by
    intro W k o cs t hs hb ho
    subst ho
    exact ⟨_, rfl, by simp [hs], hb.trans ((step1 W _).mono hb.size), step1 W _, by rw [← hs]; exact lies_new W cs t⟩
  obtain ⟨W1, e1, z1, b1, s1, h1⟩ := key w 0 _ (bn4.map fun s => Value.string (str s)) 9 rfl (Below.refl _ _) rfl
  obtain ⟨W2, e2, z2, b2, s2, h2⟩ := key W1 1 _ (([[107], [120]] : List Nm).map fun s => Value.string (str s)) 9 z1 b1 rfl
  obtain ⟨W3, e3, z3, b3, s3, h3⟩ := key W2 2 _ (([[107], [121]] : List Nm).map fun s => Value.string (str s)) 9 z2 b2 rfl
  obtain ⟨W4, e4, z4, b4, s4, h4⟩ := key W3 3 _ (([[120], [107], [120]] : List Nm).map fun s => Value.string (str s)) 9 z3 b3 rfl
  obtain ⟨W5, e5, z5, b5, s5, h5⟩ := key W4 4 _ (([[107]] : List Nm).map fun s => Value.string (str s)) 9 z4 b4 rfl
  obtain ⟨W6, e6, z6, b6, s6, h6⟩ := key W5 5 _ [.slice (some ⟨w.heap.size + 1, 0, none⟩) 2 2, .slice (some ⟨w.heap.size + 1 + 1, 0, none⟩) 2 2, .slice (some ⟨w.heap.size + 1 + 1 + 1, 0, none⟩) 3 3, .slice (some ⟨w.heap.size + 1 + 1 + 1 + 1, 0, none⟩) 1 1] 35 z5 b5 rfl
  have he : bnW w = W6 := by rw [← e6, ← e5, ← e4, ← e3, ← e2, ← e1]; rfl
  rw [he]
  have l1 := ((((h1.below s2).below s3).below s4).below s5).below s6
  have l2 := (((h2.below s3).below s4).below s5).below s6
  have l3 := ((h3.below s4).below s5).below s6
  have l4 := (h4.below s5).below s6
  have l5 := h5.below s6
  have at0 : ∀ {k : Nat} {cs : List Value} (h : Lies W6 (some ⟨w.heap.size + k, 0, none⟩) cs) (j : Nat) (u : Value), cs[j]? = some u → W6.cell? ⟨w.heap.size + k, j, none⟩ = some u := by
    intro k cs h j u hu
    obtain ⟨x, e, hx⟩ := h j u hu
    cases e
    rwa [Go.WideShapes.add_plain, Nat.zero_add] at hx
  refine ⟨⟨fun j s hs => at0 l1 j _ (by rw [List.getElem?_map, hs]; rfl), fun j hj => ?_⟩, b6⟩
  rcases j with _ | _ | _ | _ | j
  · exact ⟨_, [[107], [120]], at0 h6 0 _ rfl, ⟨l2, (fun h => by cases h), Nat.le_refl _, by unfold maxLen; simp⟩, by omega⟩
  · exact ⟨_, [[107], [121]], at0 h6 1 _ rfl, ⟨l3, (fun h => by cases h), Nat.le_refl _, by unfold maxLen; simp⟩, by omega⟩
  · exact ⟨_, [[120], [107], [120]], at0 h6 2 _ rfl, ⟨l4, (fun h => by cases h), Nat.le_refl _, by unfold maxLen; simp⟩, by omega⟩
  · exact ⟨_, [[107]], at0 h6 3 _ rfl, ⟨l5, (fun h => by cases h), Nat.le_refl _, by unfold maxLen; simp⟩, by omega⟩
  · omega
end Go.Proofs.YtbhjimlikffalaaDoor
