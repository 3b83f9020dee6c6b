/- A slice of the reference's kinds that the call itself makes: what an append of one more kind leaves (as ScOwn, of the other type). -/
import Derived.Test.YtcmgkmllmdgcbaaScOwn
namespace Go.Proofs.Ytcmgkmllmdgcbaa
open Go.RowKit
set_option linter.unusedVariables false

/-- v is a slice of these kinds that lies in no older memory; their fields lie beside it. -/
def KR (w : World) (base : Nat) (v : Value) (l : List Kd) : Prop :=
  ∃ z : List (Kd × Option Addr × Nat), z.map (·.1) = l ∧ w.ownsRow base 66 2 v l.length (kcells z) ∧ ∀ x ∈ z, Strs w x.2.1 x.2.2 x.1.2 ∧ (0 < x.1.2.length → ∀ a, x.2.1 = some a → v.ownBlock ≠ some a.block)
theorem KR.nil (w : World) (base : Nat) : KR w base (.slice none 0 0) [] := ⟨[], rfl, World.ownsRow_nil w base _ 2, fun x hx => by cases hx⟩
theorem KR.below {w w' : World} {base : Nat} {v : Value} {l : List Kd} (h : KR w base v l) (hb : Below w.heap.size w w') : KR w' base v l := by
  obtain ⟨z, h1, h2, h3⟩ := h
  exact ⟨z, h1, own_below h2 hb, fun x hx => ⟨(h3 x hx).1.below hb, (h3 x hx).2⟩⟩
theorem KR.shape {w : World} {base : Nat} {v : Value} {l : List Kd} (h : KR w base v l) : ∃ A c, v = .slice A l.length c ∧ Kinds w A c l := by
  obtain ⟨z, rfl, h2, h3⟩ := h
  rcases h2.2 with ⟨rfl, h0⟩ | ⟨g, cap, cur, rfl, _, hh, hn, hm, _, _⟩
  · have hz : z = [] := by simpa using h0
    subst hz
    exact ⟨none, 0, rfl, Kinds.nil w⟩
  · refine ⟨_, cap, rfl, fun i k hk => ?_, (fun h => by cases h), hn, hm⟩
    rw [List.getElem?_map] at hk
    obtain ⟨x, hx, rfl⟩ := Option.map_eq_some_iff.1 hk
    obtain ⟨c0, c1⟩ := kcells_get hx
    have g0 := h2.cells (g := g) rfl (i * 2) _ c0
    have g1 := h2.cells (g := g) rfl (i * 2 + 1) _ c1
    rw [Go.WideShapes.add_plain] at g0 g1
    exact ⟨g, 0, x.2.1, x.2.2, rfl, g0, by simpa [Nat.add_assoc] using g1, (h3 x (List.mem_of_getElem? hx)).1⟩
theorem KR.lt {w : World} {base : Nat} {v : Value} {l : List Kd} (h : KR w base v l) : ∀ k, v.ownBlock = some k → base ≤ k ∧ k < w.heap.size := by
  obtain ⟨z, _, h2, _⟩ := h
  exact h2.lt
theorem info_rkind : (Try.prog.info? 66).map (fun i => (i.zero, i.size, i.bytes)) = some (some (.agg #[.string { data := #[] }, .slice none 0 0]), 2, 40) := by kernel_rfl
theorem krpair_lies (w : World) (a b : Value) : ∀ j u, [a, b][j]? = some u → (w.alloc (.cells #[a, b] 66)).cell? ((⟨w.heap.size, 0, none⟩ : Addr).add j) = some u := by
  intro j u hu
  rw [Go.WideShapes.add_plain, Nat.zero_add, cell_of_row _ w.heap.size j #[a, b] 66 (0, 0) (heap_alloc_new w _)]
  simpa using hu
/-- What an append of a kind leaves. -/
theorem KR.app {w : World} {base : Nat} {v : Value} {l : List Kd} (h : KR w base v l) (hbase : base ≤ w.heap.size) (k : Kd) (F : Option Addr) (d : Nat) (hs : Strs w F d k.2) (hd : 0 < k.2.length → ∀ a, F = some a → v.ownBlock ≠ some a.block) (hl : l.length ≤ 3518437208800) :
    ∃ v' w', (Builtin.append_ #[47, 47] 47 #[v, .slice (some ⟨w.heap.size, 0, none⟩) 1 1]).run Try.prog (w.alloc (.cells #[.string (str k.1), .slice F k.2.length d] 66)) = .ok v' w' ∧ KR w' base v' (l ++ [k]) ∧ Below base w w' ∧ (w.alloc (.cells #[.string (str k.1), .slice F k.2.length d] 66)).grownBy w' v.ownBlock ∧ w.heap.size ≤ w'.heap.size ∧ (v'.ownBlock = v.ownBlock ∨ v'.ownBlock = some (w.heap.size + 1)) := by
  obtain ⟨z, h1, h2, h3⟩ := h
  obtain ⟨i0, hi, hz0, hz1, hz2⟩ := info_parts info_rkind
  obtain ⟨W, hW⟩ : ∃ W, W = w.alloc (.cells #[.string (str k.1), .slice F k.2.length d] 66) := ⟨_, rfl⟩
  have hWz : W.heap.size = w.heap.size + 1 := by rw [hW]; simp
  have bw : Below w.heap.size w W := by rw [hW]; exact (Below.refl _ _).alloc (Nat.le_refl _) _
  have hlie := krpair_lies w (.string (str k.1)) (.slice F k.2.length d)
  rw [← hW] at hlie ⊢
  have h2W : W.ownsRow base 66 2 v l.length (kcells z) := own_below h2 bw
  obtain ⟨v', w', r1, r2, r3, _, r4⟩ := run_append_own_at (P := Try.prog) W base 47 47 66 i0 (.agg #[.string { data := #[] }, .slice none 0 0]) 2 40 Try.underlying47 hi hz0 hz1 hz2 rfl (by omega) v l.length (kcells z) h2W
    ⟨w.heap.size, 0, none⟩ 1 1 [.string (str k.1), .slice F k.2.length d] rfl hlie (by intro u hu; simp at hu; rcases hu with rfl | rfl <;> rfl) (by unfold maxLen; omega) (by omega) (by omega)
  have keep : ∀ (G : Option Addr) (e : Nat) (m : List Nm), Strs w G e m → (0 < m.length → ∀ a, G = some a → v.ownBlock ≠ some a.block) → Strs w' G e m ∧ (0 < m.length → ∀ a, G = some a → v'.ownBlock ≠ some a.block) := by
    intro G e m hG hne
    refine ⟨⟨fun i u hu => ?_, hG.2⟩, fun hm a ha hv => ?_⟩
    · obtain ⟨x, rfl, hx⟩ := hG.1 i u hu
      have hlt := World.block_lt_of_cell? _ _ hx
      have eb : (x.add i).block = x.block := by simp only [Addr.add]; split <;> rfl
      have hm : 0 < m.length := by cases m with
        | nil => simp at hu
        | cons _ _ => simp
      refine ⟨x, rfl, ?_⟩
      have e1 : w'.heap[(x.add i).block]? = W.heap[(x.add i).block]? := r3.block _ (by omega) (fun e => hne hm x rfl (by rw [← e, eb]))
      exact (World.cell?_of_block (e1.trans (bw.block _ hlt))).trans hx
    · rcases r4 with e4 | e4
      · exact hne hm a ha (e4.symm.trans hv)
      · obtain ⟨b, off, e5, hc⟩ := hG.shape hm
        have hlt := World.block_lt_of_cell? _ _ (hc 0 hm)
        rw [ha] at e5
        cases e5
        rw [e4] at hv
        have := Option.some.inj hv
        simp only at *
        omega
  refine ⟨v', w', r1, ⟨z ++ [(k, F, d)], by simp [h1], by rw [kcells_snoc]; simpa using r2, fun x hx => ?_⟩, ?_, r3, Nat.le_trans bw.size r3.size, by rw [← hWz]; exact r4⟩
  · rcases List.mem_append.1 hx with hx | hx
    · exact keep _ _ _ (h3 x hx).1 (h3 x hx).2
    · simp at hx
      subst hx
      exact keep F d k.2 hs hd
  · exact (bw.mono hbase).grown r3 (by omega) (fun j hj => (h2.lt j hj).1)
end Go.Proofs.Ytcmgkmllmdgcbaa
