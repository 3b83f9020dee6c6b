/- A slice of words that the call itself makes: what it holds, what an append of one more word leaves. -/
import Derived.Test.YtblpbgknnnpamaaDoorLxToken
namespace Go.Proofs.YtblpbgknnnpamaaDoor
open Go.RowKit
set_option linter.unusedVariables false

theorem own_below {w w' : World} {base : Nat} {e : TypeId} {s n : Nat} {v : Value} {xs : List Value} (h : w.ownsRow base e s v n xs) (hb : Below w.heap.size w w') : w'.ownsRow base e s v n xs :=
  h.kept (row := none) ⟨hb.os, hb.tape, hb.output, hb.size, fun k hk _ => hb.block k hk⟩ (by cases v.ownBlock with | none => exact .inl rfl | some k => exact .inr (by simp))
/-- A word's cells. -/
def tc (x : Tok) : List Value := [.int .i64 x.k, .string (str x.t), .int .i64 x.n, .int .i64 x.p]
def tcells (z : List Tok) : List Value := z.flatMap tc
theorem tcells_snoc (l : List Tok) (x : Tok) : tcells (l ++ [x]) = tcells l ++ tc x := by simp [tcells]
theorem tcells_get {l : List Tok} {i : Nat} {x : Tok} (hi : l[i]? = some x) :
    (tcells l)[i * 4]? = some (.int .i64 x.k) ∧ (tcells l)[i * 4 + 1]? = some (.string (str x.t)) ∧ (tcells l)[i * 4 + 2]? = some (.int .i64 x.n) ∧ (tcells l)[i * 4 + 3]? = some (.int .i64 x.p) := by
  induction l generalizing i with
  | nil => simp at hi
  | cons b r ih =>
    have e : tcells (b :: r) = tc b ++ tcells r := rfl
    cases i with
    | zero => simp at hi; subst hi; exact ⟨rfl, rfl, rfl, rfl⟩
    | succ i =>
      have h1 := ih (i := i) (by simpa using hi)
      have hl : (tc b).length = 4 := rfl
      rw [e, show (i + 1) * 4 = i * 4 + 4 by omega]
      rw [List.getElem?_append_right (by omega), List.getElem?_append_right (by omega), List.getElem?_append_right (by omega), List.getElem?_append_right (by omega), hl]
      rw [show i * 4 + 4 - 4 = i * 4 by omega, show i * 4 + 4 + 1 - 4 = i * 4 + 1 by omega, show i * 4 + 4 + 2 - 4 = i * 4 + 2 by omega, show i * 4 + 4 + 3 - 4 = i * 4 + 3 by omega]
      exact h1
/-- A slice of words. -/
def Toks (w : World) (A : Option Addr) (c : Nat) (l : List Tok) : Prop :=
  (∀ i x, l[i]? = some x → ∃ (b off : Nat), A = some ⟨b, off, none⟩ ∧ w.cell? ⟨b, off + i * 4, none⟩ = some (.int .i64 x.k) ∧ w.cell? ⟨b, off + i * 4 + 1, none⟩ = some (.string (str x.t)) ∧ w.cell? ⟨b, off + i * 4 + 2, none⟩ = some (.int .i64 x.n) ∧ w.cell? ⟨b, off + i * 4 + 3, none⟩ = some (.int .i64 x.p))
    ∧ (A = none → c = 0) ∧ l.length ≤ c ∧ c ≤ maxLen
theorem Toks.below {w w' : World} {A : Option Addr} {c : Nat} {l : List Tok} (h : Toks w A c l) (hb : Below w.heap.size w w') : Toks w' A c l := by
  refine ⟨fun i k hk => ?_, h.2⟩
  obtain ⟨b, off, rfl, h1, h2, h3, h4⟩ := h.1 i k hk
  exact ⟨b, off, rfl, (hb.cell (World.block_lt_of_cell? _ _ h1)).trans h1, (hb.cell (World.block_lt_of_cell? _ _ h2)).trans h2, (hb.cell (World.block_lt_of_cell? _ _ h3)).trans h3, (hb.cell (World.block_lt_of_cell? _ _ h4)).trans h4⟩
theorem Toks.nil (w : World) : Toks w none 0 [] := ⟨fun i u hu => by simp at hu, fun _ => rfl, Nat.le_refl _, Nat.zero_le _⟩
theorem Toks.at_ {w : World} {A : Option Addr} {c : Nat} {l : List Tok} (h : Toks w A c l) (i : Nat) (hi : i < l.length) :
    ∃ b off, A = some ⟨b, off, none⟩ ∧ w.cell? ⟨b, off + i * 4, none⟩ = some (.int .i64 l[i].k) ∧ w.cell? ⟨b, off + i * 4 + 1, none⟩ = some (.string (str l[i].t)) ∧ w.cell? ⟨b, off + i * 4 + 2, none⟩ = some (.int .i64 l[i].n) ∧ w.cell? ⟨b, off + i * 4 + 3, none⟩ = some (.int .i64 l[i].p) :=
  h.1 i l[i] (by simp [hi])
/-- v is a slice of these words that lies in no older memory. -/
def TW (w : World) (base : Nat) (v : Value) (l : List Tok) : Prop := w.ownsRow base 30 4 v l.length (tcells l)
theorem TW.nil (w : World) (base : Nat) : TW w base (.slice none 0 0) [] := World.ownsRow_nil w base _ 4
theorem TW.below {w w' : World} {base : Nat} {v : Value} {l : List Tok} (h : TW w base v l) (hb : Below w.heap.size w w') : TW w' base v l := own_below h hb
theorem TW.lt {w : World} {base : Nat} {v : Value} {l : List Tok} (h : TW w base v l) : ∀ k, v.ownBlock = some k → base ≤ k ∧ k < w.heap.size := World.ownsRow.lt h
theorem TW.shape {w : World} {base : Nat} {v : Value} {l : List Tok} (h : TW w base v l) : ∃ A c, v = .slice A l.length c ∧ Toks w A c l := by
  have h2 : w.ownsRow base 30 4 v l.length (tcells l) := h
  rcases h2.2 with ⟨rfl, h0⟩ | ⟨g, cap, cur, rfl, _, hh, hn, hm, _, _⟩
  · have hz : l = [] := by simpa using h0
    subst hz
    exact ⟨none, 0, rfl, Toks.nil w⟩
  · refine ⟨_, cap, rfl, fun i x hx => ?_, (fun h => by cases h), hn, hm⟩
    obtain ⟨c0, c1, c2, c3⟩ := tcells_get hx
    have g0 := h2.cells (g := g) rfl (i * 4) _ c0
    have g1 := h2.cells (g := g) rfl (i * 4 + 1) _ c1
    have g2 := h2.cells (g := g) rfl (i * 4 + 2) _ c2
    have g3 := h2.cells (g := g) rfl (i * 4 + 3) _ c3
    rw [Go.WideShapes.add_plain] at g0 g1 g2 g3
    exact ⟨g, 0, rfl, g0, by simpa [Nat.add_assoc] using g1, by simpa [Nat.add_assoc] using g2, by simpa [Nat.add_assoc] using g3⟩
theorem info_tok : (Tryd.prog.info? 30).map (fun i => (i.zero, i.size, i.bytes)) = some (some (.agg #[.int .i64 0, .string { data := #[] }, .int .i64 0, .int .i64 0]), 4, 40) := by kernel_rfl
theorem tlies (w : World) (x : Tok) : ∀ j u, (tc x)[j]? = some u → (w.alloc (.cells (tc x).toArray 30)).cell? ((⟨w.heap.size, 0, none⟩ : Addr).add j) = some u := by
  intro j u hu
  rw [Go.WideShapes.add_plain, Nat.zero_add, cell_of_row _ w.heap.size j _ 30 (0, 0) (heap_alloc_new w _)]
  simpa using hu
/-- What an append of a word leaves. -/
theorem TW.app {w : World} {base : Nat} {v : Value} {l : List Tok} (h : TW w base v l) (hbase : base ≤ w.heap.size) (x : Tok) (hl : l.length ≤ 1000000000) :
    ∃ v' w', (Builtin.append_ #[25, 25] 25 #[v, .slice (some ⟨w.heap.size, 0, none⟩) 1 1]).run Tryd.prog (w.alloc (.cells (tc x).toArray 30)) = .ok v' w' ∧ TW w' base v' (l ++ [x]) ∧ Below base w w' ∧ (w.alloc (.cells (tc x).toArray 30)).grownBy w' v.ownBlock ∧ w.heap.size ≤ w'.heap.size ∧ (v'.ownBlock = v.ownBlock ∨ v'.ownBlock = some (w.heap.size + 1)) := by
  obtain ⟨i0, hi, hz0, hz1, hz2⟩ := info_parts info_tok
  obtain ⟨W, hW⟩ : ∃ W, W = w.alloc (.cells (tc x).toArray 30) := ⟨_, rfl⟩
  have hWz : W.heap.size = w.heap.size + 1 := by rw [hW]; simp
  have bw : Below w.heap.size w W := by rw [hW]; exact (Below.refl _ _).alloc (Nat.le_refl _) _
  have hlie := tlies w x
  rw [← hW] at hlie ⊢
  obtain ⟨v', w', r1, r2, r3, _, r4⟩ := run_append_own_at (P := Tryd.prog) W base 25 25 30 i0 (.agg #[.int .i64 0, .string { data := #[] }, .int .i64 0, .int .i64 0]) 4 40 Tryd.underlying25 hi hz0 hz1 hz2 rfl (by omega) v l.length (tcells l) (own_below h bw)
    ⟨w.heap.size, 0, none⟩ 1 1 (tc x) rfl hlie (by intro u hu; simp [tc] at hu; rcases hu with rfl | rfl | rfl | rfl <;> rfl) (by unfold maxLen; omega) (by omega) (by omega)
  refine ⟨v', w', r1, ?_, (bw.mono hbase).grown r3 (by omega) (fun j hj => (h.lt j hj).1), r3, Nat.le_trans bw.size r3.size, by rw [← hWz]; exact r4⟩
  unfold TW
  rw [tcells_snoc]
  simpa using r2
theorem grown_set (w : World) (p : Addr) (u : Value) : w.grownBy (w.setCell p u) (some p.block) :=
  ⟨rfl, rfl, rfl, by simp, fun k hk hne => Below.heap_setCell w p u k (fun e => hne (by rw [e]))⟩
theorem TW.set {w : World} {base : Nat} {v : Value} {l : List Tok} (h : TW w base v l) (p : Addr) (u : Value) (hp : v.ownBlock ≠ some p.block) : TW (w.setCell p u) base v l :=
  World.ownsRow.kept h (grown_set w p u) (.inr hp)
theorem Has.grown {w w' : World} {q : Nat} {t : TypeId} {cs : Array Value} {row : Option Nat} (h : Has w q t cs) (hg : w.grownBy w' row) (hne : row ≠ some q) : Has w' q t cs :=
  (hg.block q h.lt (fun e => hne e.symm)).trans h
end Go.Proofs.YtblpbgknnnpamaaDoor
