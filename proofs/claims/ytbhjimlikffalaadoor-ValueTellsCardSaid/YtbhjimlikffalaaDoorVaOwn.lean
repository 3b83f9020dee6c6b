/- Layer 8: a slice of Binds that the call itself makes: what an append of one more leaves. -/
import Derived.Test.YtbhjimlikffalaaDoorVaMade
import Derived.Test.YtbhjimlikffalaaDoorAppStep
namespace Go.Proofs.YtbhjimlikffalaaDoor
open Go.RowKit
set_option linter.unusedVariables false

theorem own_below3 {w w' : World} {base : Nat} {e : TypeId} {s n : Nat} {v : Value} {xs : List Value} (h : w.ownsRow base e s v n xs) (hb : Below w.heap.size w w') : w'.ownsRow base e s v n xs :=
  h.kept (row := none) ⟨hb.os, hb.tape, hb.output, hb.size, fun k hk _ => hb.block k hk⟩ (by cases v.ownBlock with | none => exact .inl rfl | some k => exact .inr (by simp))
/-- A Bind's cells. -/
def bc (x : Bd) : List Value := [.string (str x.v), .slice x.A x.fs.length x.c, .slice x.B x.vs.length x.d]
def bdcells (z : List Bd) : List Value := z.flatMap bc
theorem bdcells_snoc (l : List Bd) (x : Bd) : bdcells (l ++ [x]) = bdcells l ++ bc x := by simp [bdcells]
theorem bdcells_len (l : List Bd) : (bdcells l).length = l.length * 3 := by
  induction l with
  | nil => rfl
  | cons b r ih =>
    have e : bdcells (b :: r) = bc b ++ bdcells r := rfl
    rw [e, List.length_append, ih, List.length_cons]
    have : (bc b).length = 3 := rfl
    omega
theorem bdcells_get {l : List Bd} {i : Nat} {x : Bd} (hi : l[i]? = some x) :
    (bdcells l)[i * 3]? = some (.string (str x.v)) ∧ (bdcells l)[i * 3 + 1]? = some (.slice x.A x.fs.length x.c) ∧ (bdcells l)[i * 3 + 2]? = some (.slice x.B x.vs.length x.d) := by
  induction l generalizing i with
  | nil => simp at hi
  | cons b r ih =>
    have e : bdcells (b :: r) = bc b ++ bdcells r := rfl
    cases i with
    | zero => simp at hi; subst hi; exact ⟨rfl, rfl, rfl⟩
    | succ i =>
      have h1 := ih (i := i) (by simpa using hi)
      have hl : (bc b).length = 3 := rfl
      rw [e, show (i + 1) * 3 = i * 3 + 3 by omega]
      rw [List.getElem?_append_right (by omega), List.getElem?_append_right (by omega), List.getElem?_append_right (by omega), hl]
      rw [show i * 3 + 3 - 3 = i * 3 by omega, show i * 3 + 3 + 1 - 3 = i * 3 + 1 by omega, show i * 3 + 3 + 2 - 3 = i * 3 + 2 by omega]
      exact h1
/-- Where texts, numbers lie that are no part of the slice. -/
def Apart (v : Value) (x : Bd) : Prop := (0 < x.fs.length → ∀ a, x.A = some a → v.ownBlock ≠ some a.block) ∧ (0 < x.vs.length → ∀ a, x.B = some a → v.ownBlock ≠ some a.block)
/-- v is a slice of these Binds that lies in no older memory; what they hold lies beside it. -/
def BW (w : World) (base : Nat) (v : Value) (l : List Bd) : Prop := w.ownsRow base 80 3 v l.length (bdcells l) ∧ ∀ x ∈ l, (Strs w x.A x.c x.fs ∧ Nums w x.B x.d x.vs) ∧ Apart v x
theorem BW.nil (w : World) (base : Nat) : BW w base (.slice none 0 0) [] := ⟨World.ownsRow_nil w base _ 3, fun x hx => by cases hx⟩
theorem BW.below {w w' : World} {base : Nat} {v : Value} {l : List Bd} (h : BW w base v l) (hb : Below w.heap.size w w') : BW w' base v l :=
  ⟨own_below3 h.1 hb, fun x hx => ⟨⟨(h.2 x hx).1.1.below hb, (h.2 x hx).1.2.below hb⟩, (h.2 x hx).2⟩⟩
theorem BW.lt {w : World} {base : Nat} {v : Value} {l : List Bd} (h : BW w base v l) : ∀ k, v.ownBlock = some k → base ≤ k ∧ k < w.heap.size := h.1.lt
theorem BW.shape {w : World} {base : Nat} {v : Value} {l : List Bd} (h : BW w base v l) : ∃ A c, v = .slice A l.length c ∧ Bds w A c l := by
  obtain ⟨h2, h3⟩ := h
  have h2' := h2
  rcases h2.2 with ⟨rfl, h0⟩ | ⟨g, cap, cur, rfl, _, hh, hn, hm, _, _⟩
  · have hz : l = [] := by simpa using h0
    subst hz
    exact ⟨none, 0, rfl, Bds.nil w⟩
  · refine ⟨_, cap, rfl, fun i x hx => ?_, (fun h => by cases h), hn, hm⟩
    obtain ⟨c0, c1, c2⟩ := bdcells_get hx
    have g0 := h2'.cells (g := g) rfl (i * 3) _ c0
    have g1 := h2'.cells (g := g) rfl (i * 3 + 1) _ c1
    have g2 := h2'.cells (g := g) rfl (i * 3 + 2) _ c2
    rw [Go.WideShapes.add_plain] at g0 g1 g2
    have hx' := h3 x (List.mem_of_getElem? hx)
    exact ⟨⟨g, 0, rfl, g0, by simpa [Nat.add_assoc] using g1, by simpa [Nat.add_assoc] using g2⟩, hx'.1.1, hx'.1.2⟩
theorem info_bind : (Tryd.prog.info? 80).map (fun i => (i.zero, i.size, i.bytes)) = some (some (.agg #[.string { data := #[] }, .slice none 0 0, .slice none 0 0]), 3, 64) := by kernel_rfl
theorem blies (w : World) (x : Bd) : ∀ j u, (bc x)[j]? = some u → (w.alloc (.cells (bc1 x) 80)).cell? ((⟨w.heap.size, 0, none⟩ : Addr).add j) = some u := by
  intro j u hu
  rw [Go.WideShapes.add_plain, Nat.zero_add, cell_of_row _ w.heap.size j _ 80 (0, 0) (heap_alloc_new w _)]
  simpa [bc] using hu
/-- What is kept of a slice's elements beside an append. -/
theorem apart_keep {w W w' : World} {v v' : Value} (bw : Below w.heap.size w W) (hWz : W.heap.size = w.heap.size + 1) (r3 : W.grownBy w' v.ownBlock) (r4 : v'.ownBlock = v.ownBlock ∨ v'.ownBlock = some W.heap.size) {B : Option Addr} {us : List Value} (hG : Lies w B us)
    (hne : 0 < us.length → ∀ a, B = some a → v.ownBlock ≠ some a.block) : Lies w' B us ∧ (0 < us.length → ∀ a, B = some a → v'.ownBlock ≠ some a.block) := by
  refine ⟨fun i u hu => ?_, fun hm a ha hv => ?_⟩
  · obtain ⟨x, rfl, hx⟩ := hG i u hu
    have hlt := World.block_lt_of_cell? _ _ hx
    have eb : (x.add i).block = x.block := by simp only [Addr.add]; split <;> rfl
    have hm : 0 < us.length := by cases us with
      | nil => simp at hu
      | cons _ _ => simp
    refine ⟨x, rfl, ?_⟩
    have e1 : w'.heap[(x.add i).block]? = W.heap[(x.add i).block]? := r3.block _ (by omega) (fun e => hne hm x rfl (by rw [← e, eb]))
    exact (World.cell?_of_block (e1.trans (bw.block _ hlt))).trans hx
  · rcases r4 with e4 | e4
    · exact hne hm a ha (e4.symm.trans hv)
    · obtain ⟨b, off, e5, hc⟩ := hG.at_ (i := 0) (List.getElem?_eq_getElem hm)
      have hlt := World.block_lt_of_cell? _ _ hc
      rw [ha] at e5
      cases e5
      rw [e4] at hv
      have := Option.some.inj hv
      simp only at *
      omega
/-- What an append of a Bind leaves. -/
theorem BW.app {w : World} {base : Nat} {v : Value} {l : List Bd} (h : BW w base v l) (hbase : base ≤ w.heap.size) (x : Bd) (hs : Strs w x.A x.c x.fs) (hn : Nums w x.B x.d x.vs) (ha : Apart v x) (hl : l.length ≤ 1000000000) :
    ∃ v' w', (Builtin.append_ #[45, 45] 45 #[v, .slice (some ⟨w.heap.size, 0, none⟩) 1 1]).run Tryd.prog (w.alloc (.cells (bc1 x) 80)) = .ok v' w' ∧ BW w' base v' (l ++ [x]) ∧ Below base w w' := by
  obtain ⟨h2, h3⟩ := h
  obtain ⟨i0, hi, hz0, hz1, hz2⟩ := info_parts info_bind
  obtain ⟨W, hW⟩ : ∃ W, W = w.alloc (.cells (bc1 x) 80) := ⟨_, rfl⟩
  have hWz : W.heap.size = w.heap.size + 1 := by rw [hW]; simp
  have bw : Below w.heap.size w W := by rw [hW]; exact (Below.refl _ _).alloc (Nat.le_refl _) _
  have hlie := blies w x
  rw [← hW] at hlie ⊢
  have h2W := own_below3 h2 bw
  obtain ⟨v', w', r1, r2, r3, _, r4⟩ := run_append_own_at (P := Tryd.prog) W base 45 45 80 i0 (.agg #[.string { data := #[] }, .slice none 0 0, .slice none 0 0]) 3 64 Tryd.underlying45 hi hz0 hz1 hz2 rfl (by omega) v l.length (bdcells l) h2W
    ⟨w.heap.size, 0, none⟩ 1 1 (bc x) rfl hlie (by intro u hu; simp [bc] at hu; rcases hu with rfl | rfl | rfl <;> rfl) (by unfold maxLen; omega) (by omega) (by omega)
  have keep : ∀ y : Bd, (Strs w y.A y.c y.fs ∧ Nums w y.B y.d y.vs) → Apart v y → (Strs w' y.A y.c y.fs ∧ Nums w' y.B y.d y.vs) ∧ Apart v' y := by
    intro y hy hap
    have k1 := apart_keep bw hWz r3 r4 hy.1.1 (by rw [List.length_map]; exact hap.1)
    have k2 := apart_keep bw hWz r3 r4 hy.2.1 (by rw [List.length_map]; exact hap.2)
    rw [List.length_map] at k1 k2
    exact ⟨⟨⟨k1.1, hy.1.2⟩, ⟨k2.1, hy.2.2⟩⟩, k1.2, k2.2⟩
  refine ⟨v', w', r1, ⟨by rw [bdcells_snoc]; simpa using r2, fun y hy => ?_⟩, (bw.mono hbase).grown r3 (by omega) (fun j hj => (h2.lt j hj).1)⟩
  rcases List.mem_append.1 hy with hy | hy
  · exact keep y (h3 y hy).1 (h3 y hy).2
  · simp at hy
    subst hy
    exact keep y ⟨hs, hn⟩ ha
end Go.Proofs.YtbhjimlikffalaaDoor
