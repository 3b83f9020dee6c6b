/- A slice of texts that the call itself makes: what an append of one more text leaves. -/
import Derived.Test.YtkoomphkbiifhaaDoorScOwn
namespace Go.Proofs.YtkoomphkbiifhaaDoor
open Go.RowKit
set_option linter.unusedVariables false

/-- v is a slice of these texts that lies in no older memory. -/
def SW (w : World) (base : Nat) (v : Value) (l : List Nm) : Prop := w.ownsRow base 9 1 v l.length (l.map fun s => Value.string (str s))
theorem SW.nil (w : World) (base : Nat) : SW w base (.slice none 0 0) [] := World.ownsRow_nil w base _ 1
theorem SW.below {w w' : World} {base : Nat} {v : Value} {l : List Nm} (h : SW w base v l) (hb : Below w.heap.size w w') : SW w' base v l := own_below h hb
theorem SW.lt {w : World} {base : Nat} {v : Value} {l : List Nm} (h : SW w base v l) : ∀ k, v.ownBlock = some k → base ≤ k ∧ k < w.heap.size := World.ownsRow.lt h
theorem SW.shape {w : World} {base : Nat} {v : Value} {l : List Nm} (h : SW w base v l) : ∃ A c, v = .slice A l.length c ∧ Strs w A c l := by
  obtain ⟨A, c, e, h1, h2, h3, h4⟩ := own_shape h
  exact ⟨A, c, e, h1, h2, h3, h4⟩
theorem info_str : (Tryd.prog.info? 9).map (fun i => (i.zero, i.size, i.bytes)) = some (some (.string { data := #[] }), 1, 16) := by kernel_rfl
/-- What an append of a text leaves. -/
theorem SW.app {w : World} {base : Nat} {v : Value} {l : List Nm} (h : SW w base v l) (hbase : base ≤ w.heap.size) (s : Nm) (hl : l.length ≤ 1000000000) :
    ∃ v' w', (Builtin.append_ #[38, 38] 38 #[v, .slice (some ⟨w.heap.size, 0, none⟩) 1 1]).run Tryd.prog (w.alloc (.cells #[.string (str s)] 9)) = .ok v' w' ∧ SW w' base v' (l ++ [s]) ∧ Below base w w' ∧ (w.alloc (.cells #[.string (str s)] 9)).grownBy w' v.ownBlock ∧ w.heap.size ≤ w'.heap.size ∧ (v'.ownBlock = v.ownBlock ∨ v'.ownBlock = some (w.heap.size + 1)) := by
  obtain ⟨i0, hi, hz0, hz1, hz2⟩ := info_parts info_str
  obtain ⟨W, hW⟩ : ∃ W, W = w.alloc (.cells #[.string (str s)] 9) := ⟨_, rfl⟩
  have hWz : W.heap.size = w.heap.size + 1 := by rw [hW]; simp
  have bw : Below w.heap.size w W := by rw [hW]; exact (Below.refl _ _).alloc (Nat.le_refl _) _
  have hlie : Lies W (some ⟨w.heap.size, 0, none⟩) [.string (str s)] := by rw [hW]; exact Lies.one w _ _
  rw [← hW]
  obtain ⟨v', w', r1, r2, r3, r4⟩ := run_app (P := Tryd.prog) W base 38 38 9 i0 (.string { data := #[] }) 16 Tryd.underlying38 hi hz0 hz1 hz2 rfl v l.length _ (own_below h bw)
    (some ⟨w.heap.size, 0, none⟩) 1 1 [.string (str s)] rfl hlie (fun h => by cases h) (by intro u hu; simp at hu; subst hu; rfl) (by unfold maxLen; omega) (by omega) (by omega)
  refine ⟨v', w', r1, ?_, (bw.mono hbase).grown r3 (by omega) (fun j hj => (h.lt j hj).1), r3, Nat.le_trans bw.size r3.size, by rw [← hWz]; exact r4⟩
  unfold SW
  simpa using r2
theorem grown_set (w : World) (p : Addr) (u : Value) : w.grownBy (w.setCell p u) (some p.block) :=
  ⟨rfl, rfl, rfl, by simp, fun k hk hne => Below.heap_setCell w p u k (fun e => hne (by rw [e]))⟩
theorem SW.set {w : World} {base : Nat} {v : Value} {l : List Nm} (h : SW w base v l) (p : Addr) (u : Value) (hp : v.ownBlock ≠ some p.block) : SW (w.setCell p u) base v l :=
  World.ownsRow.kept h (grown_set w p u) (.inr hp)
theorem Has.grown {w w' : World} {q : Nat} {t : TypeId} {cs : Array Value} {row : Option Nat} (h : Has w q t cs) (hg : w.grownBy w' row) (hne : row ≠ some q) : Has w' q t cs :=
  (hg.block q h.lt (fun e => hne e.symm)).trans h
end Go.Proofs.YtkoomphkbiifhaaDoor
