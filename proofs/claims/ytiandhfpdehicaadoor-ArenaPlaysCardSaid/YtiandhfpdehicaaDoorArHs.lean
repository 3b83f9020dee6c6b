/- A slice of handles that a statement owns, beside an arena: what an append onto it leaves, and its cells. -/
import Derived.Test.YtiandhfpdehicaaDoorArHead
namespace Go.Proofs.YtiandhfpdehicaaDoor
open Go.RowKit
set_option linter.unusedVariables false

/-- The cells of handles. -/
def hcells (l : List (Int × Int)) : List Value := l.flatMap fun h => [.int .u32 h.1, .int .u32 h.2]
theorem hcells_len (l : List (Int × Int)) : (hcells l).length = l.length * 2 := by
  induction l with
  | nil => rfl
  | cons b r ih => simp only [hcells, List.flatMap_cons] at *; simp; simp at ih; omega
theorem hcells_snoc (l : List (Int × Int)) (h : Int × Int) : hcells (l ++ [h]) = hcells l ++ [.int .u32 h.1, .int .u32 h.2] := by simp [hcells]
theorem hcells_get {l : List (Int × Int)} {i : Nat} {h : Int × Int} (hi : l[i]? = some h) : (hcells l)[i * 2]? = some (.int .u32 h.1) ∧ (hcells l)[i * 2 + 1]? = some (.int .u32 h.2) := by
  induction l generalizing i with
  | nil => simp at hi
  | cons b r ih =>
    have e : hcells (b :: r) = [.int .u32 b.1, .int .u32 b.2] ++ hcells r := rfl
    cases i with
    | zero => simp at hi; subst hi; exact ⟨rfl, rfl⟩
    | succ i =>
      have h1 := ih (i := i) (by simpa using hi)
      rw [e, show (i + 1) * 2 = i * 2 + 2 by omega]
      simpa [List.getElem?_append, show i * 2 + 2 + 1 = (i * 2 + 1) + 2 by omega] using h1
theorem hcells_one (l : List (Int × Int)) : ∀ u ∈ hcells l, u.oneCell' = true := by
  intro u hu
  simp only [hcells, List.mem_flatMap] at hu
  obtain ⟨b, _, hb⟩ := hu
  simp at hb
  rcases hb with rfl | rfl <;> rfl

/-- The statement turns a block of its own, and makes memory, of which n is one of its own from now on. -/
theorem Sc.turnf {w w' : World} {B g : Nat} {s : Ar} {K : List Nat} (h : Sc w B g s K) {o : Option Nat} (ho : ∀ k, o = some k → k ∈ K) (hos : w'.os = w.os) (ht : w'.tape = w.tape) (hout : w'.output = w.output) (hs : w.heap.size ≤ w'.heap.size) (hb : ∀ k, k < w.heap.size → o ≠ some k → w'.heap[k]? = w.heap[k]?)
    {n : Nat} (h0 : w.heap.size ≤ n) (hn : n < w'.heap.size) : Sc w' B g s (n :: K) ∧ Below B w w' := by
  obtain ⟨v, h1, h2⟩ := h.ar
  have hg := h1.lt
  have bel : Below B w w' := ⟨hos, ht, hout, hs, fun k hk => hb k (Nat.lt_of_lt_of_le hk h.bl) (fun e => by have := (h2 k (ho k e)).1; omega)⟩
  refine ⟨⟨tab_bel h.tab h.tb bel, dbt_bel h.dbt h.db bel, h.tb, h.db, Nat.le_trans h.bl hs, v, h1.keep fun k hk => ?_, fun k hk => ?_⟩, bel⟩
  · refine hb k ?_ (fun e => ?_)
    · rcases hk with rfl | hk
      · exact hg
      · exact (h1.vlt k hk).2
    · have := h2 k (ho k e)
      rcases hk with rfl | hk
      · exact this.2.2.1 rfl
      · exact this.2.2.2 hk
  · rcases List.mem_cons.1 hk with rfl | hk
    · refine ⟨Nat.le_trans h.bl h0, hn, by omega, fun e => ?_⟩
      have := (h1.vlt _ e).2
      omega
    · exact ⟨(h2 k hk).1, Nat.lt_of_lt_of_le (h2 k hk).2.1 hs, (h2 k hk).2.2⟩

theorem info_handle : (Tryd.prog.info? 32).map (fun i => (i.zero, i.size, i.bytes)) = some (some (.agg #[.int .u32 0, .int .u32 0]), 2, 8) := by kernel_rfl
theorem pair_lies (w : World) (a b : Int) : ∀ j u, [Value.int .u32 a, .int .u32 b][j]? = some u → (w.alloc (.cells #[.int .u32 a, .int .u32 b] 32)).cell? ((⟨w.heap.size, 0, none⟩ : Addr).add j) = some u := by
  intro j u hu
  rw [Go.WideShapes.add_plain, Nat.zero_add, cell_of_row _ w.heap.size j #[.int .u32 a, .int .u32 b] 32 (0, 0) (heap_alloc_new w _)]
  simpa using hu
/-- What an append of a handle leaves, beside an arena. -/
def Apped (B g : Nat) (s : Ar) (K : List Nat) (v : Value) (l : List (Int × Int)) (h : Int × Int) (w : World) (v' : Value) (w' : World) : Prop :=
  w'.ownsRow B 32 2 v' (l.length + 1) (hcells (l ++ [h])) ∧ Sc w' B g s (v'.ownBlock.toList ++ K) ∧ Below B w w' ∧ (∀ k, k < w.heap.size → v.ownBlock ≠ some k → w'.heap[k]? = w.heap[k]?) ∧ (v'.ownBlock = v.ownBlock ∨ ∃ n, v'.ownBlock = some n ∧ w.heap.size ≤ n)
theorem app_hs {w : World} {B g : Nat} {s : Ar} {K : List Nat} {v : Value} {l : List (Int × Int)} {n : Nat} (hn : l.length = n) (hs : Sc w B g s (v.ownBlock.toList ++ K)) (hown : w.ownsRow B 32 2 v n (hcells l)) (h : Int × Int) (hl : n ≤ 5000) :
    ∃ v' w', (Builtin.append_ #[28, 28] 28 #[v, .slice (some ⟨w.heap.size, 0, none⟩) 1 1]).run Tryd.prog (w.alloc (.cells #[.int .u32 h.1, .int .u32 h.2] 32)) = .ok v' w' ∧ Apped B g s K v l h w v' w' := by
  subst hn
  obtain ⟨i0, hi, hz0, hz1, hz2⟩ := info_parts info_handle
  obtain ⟨v', w', h1, h2, h3, _, h4⟩ := run_append_own_at (P := Tryd.prog) (w.alloc (.cells #[.int .u32 h.1, .int .u32 h.2] 32)) B 28 28 32 i0 (.agg #[.int .u32 0, .int .u32 0]) 2 8 Tryd.underlying28 hi hz0 hz1 hz2 rfl (by omega) v l.length (hcells l) (hown.alloc _)
    ⟨w.heap.size, 0, none⟩ 1 1 [.int .u32 h.1, .int .u32 h.2] rfl (pair_lies w h.1 h.2) (by intro u hu; simp at hu; rcases hu with rfl | rfl <;> rfl) (by unfold maxLen; omega) (by omega) (by have := hs.bl; simp; omega)
  have bw : Below w.heap.size w (w.alloc (.cells #[.int .u32 h.1, .int .u32 h.2] 32)) := (Below.refl _ _).alloc (Nat.le_refl _) _
  have hs0 := hs.below bw
  refine ⟨v', w', h1, by rw [hcells_snoc]; exact h2, ?_⟩
  have hbl : ∀ k, k < w.heap.size → v.ownBlock ≠ some k → w'.heap[k]? = w.heap[k]? := fun k hk hne => (h3.block k (by simp; omega) (fun e => hne e.symm)).trans (bw.block k hk)
  have ho : ∀ k, v.ownBlock = some k → k ∈ v.ownBlock.toList ++ K := fun k hk => by rw [hk]; simp
  have bel0 := bw.mono hs.bl
  rcases h4 with e | e
  · obtain ⟨t1, t2⟩ := hs0.turn ho h3.os h3.tape h3.output h3.size (fun k hk hne => h3.block k hk (fun e => hne e.symm))
    refine ⟨by rw [e]; exact t1, bel0.trans t2, hbl, .inl e⟩
  · have hlt := (h2.lt _ e).2
    obtain ⟨t1, t2⟩ := hs0.turnf ho h3.os h3.tape h3.output h3.size (fun k hk hne => h3.block k hk (fun e => hne e.symm)) (n := (w.alloc (.cells #[.int .u32 h.1, .int .u32 h.2] 32)).heap.size) (Nat.le_refl _) hlt
    refine ⟨t1.sub fun k hk => ?_, bel0.trans t2, hbl, .inr ⟨_, e, by simp⟩⟩
    rw [e] at hk
    simp at hk ⊢
    rcases hk with hk | hk
    · exact .inl hk
    · exact .inr (.inr hk)
/-- The slice written out, and the cells of a handle of it. -/
theorem hs_at {w : World} {B : Nat} {v : Value} {n : Nat} {l : List (Int × Int)} (hown : w.ownsRow B 32 2 v n (hcells l)) {i : Nat} {h : Int × Int} (hi : l[i]? = some h) :
    ∃ q cap, v = .slice (some ⟨q, 0, none⟩) n cap ∧ n ≤ cap ∧ w.cell? ⟨q, i * 2, none⟩ = some (.int .u32 h.1) ∧ w.cell? ⟨q, i * 2 + 1, none⟩ = some (.int .u32 h.2) := by
  have hlen : (hcells l).length = n * 2 := by simpa using hown.1
  obtain ⟨g1, g2⟩ := hcells_get hi
  have hil : i < l.length := by
    rcases Nat.lt_or_ge i l.length with h1 | h1
    · exact h1
    · rw [List.getElem?_eq_none h1] at hi; cases hi
  rw [hcells_len] at hlen
  rcases hown.2 with ⟨rfl, h0⟩ | ⟨q, cap, cur, rfl, hb, hgg, hc1, _⟩
  · omega
  · refine ⟨q, cap, rfl, hc1, ?_, ?_⟩
    · rw [hown.cellAt _ (by omega)]; exact g1
    · rw [hown.cellAt _ (by omega)]; exact g2
end Go.Proofs.YtiandhfpdehicaaDoor
